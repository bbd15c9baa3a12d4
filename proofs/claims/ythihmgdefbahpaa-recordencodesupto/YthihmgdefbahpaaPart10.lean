import Derived.Test.YthihmgdefbahpaaPart9
namespace Go.Proofs.Ythihmgdefbahpaa
open Go.RowKit
set_option maxHeartbeats 2000000 in
set_option maxRecDepth 100000 in
set_option linter.unusedSimpArgs false in
/-- holds -/
theorem holds_any (v : Value) (base : Nat) (gs : List GR) (h k : ByteArray) (w : World) (hG : GroupsAt w base v gs) (hr : Rises gs.length (fun t => (gs.getD t default).1)) (he : ∀ g ∈ gs, errL g.2 = 0) (hlen : gs.length ≤ 1048576) :
    Calls Try.prog 30 #[v, .string h, .string k] w fun e w' => e = .returned (.tuple #[.string ((lkV gs h k).getD ⟨#[]⟩), .bool (lkV gs h k).isSome]) ∧ Below w.heap.size w w' := by
  obtain ⟨ao, g, cap, rfl, h1, h2, h3⟩ := hG.split
  have H3 := hide h3
  have HR := hide hr
  have HE := hide he
  clear hG h3 hr he
  go_enter Try.func30, Try.ntmps30
  go_wp2_with fail
  go_loopw [8] (fun i wr => ∃ j : Nat, j ≤ gs.length ∧ i = .int .i64 j ∧ (∀ t (ht : t < gs.length), t < j → gs[t].1 = h → pairFor gs[t].2 k = none) ∧ Below w.heap.size w wr) (fun i _ => gs.length - (intOf i).toNat)
  case atStart => exact ⟨0, Nat.zero_le _, rfl, fun t _ ht => by omega, Below.refl _ _⟩
  case round =>
    obtain ⟨i, hi, rfl, hno, hnx⟩ := hrel
    by_cases hlt : i < gs.length
    · obtain rfl := h1 (by omega)
      have t1 := h2 (by omega)
      obtain ⟨p1, d1, d2, d3⟩ := H3.out i hlt
      obtain ⟨q1, r1, u1, rfl, x11, x12, x13⟩ := own_pairs d3
      have hfine := fine (HE.out _ (List.getElem_mem hlt))
      have KR := hide (keys_rise (HE.out _ (List.getElem_mem hlt)))
      obtain ⟨ps, hps⟩ : ∃ ps, ps = gs[i].2 := ⟨_, rfl⟩
      obtain ⟨X, hX⟩ : ∃ X, X = gs[i].1 := ⟨_, rfl⟩
      rw [← hps] at d2 d3 x11 x12 x13 hfine KR
      rw [← hX] at d1
      have x0 := x11 (by omega)
      subst x0
      have x12' := x12 (by omega)
      have HX := hide hX
      have HPS := hide hps
      have HNO := hide hno
      have HD : Hid (∀ w', Below w.heap.size w w' → w'.cell? ⟨g, i * 2, none⟩ = some (.string X) ∧ w'.cell? ⟨g, i * 2 + 1, none⟩ = some (.slice (some ⟨r1, 0, none⟩) ps.length u1) ∧ LiesP r1 0 w' ps) := fun w' hw => by
        rw [hw.cell (by exact t1), hw.cell (by exact t1)]
        exact ⟨d1, d2, x13.below x12' hw⟩
      have hpl : ps.length ≤ 512 := hfine.1
      have HNX := hide hnx
      have hii : (i : Int) < (gs.length : Int) := by omega
      clear hno hnx hX hps d1 d2 d3 x11 x12 x13 hfine
      go_wp2_with fail
      go_loopw [9] (fun jv wr2 => ∃ j : Nat, j ≤ ps.length ∧ jv = .int .i64 j ∧ (X = h → ∀ t (ht : t < ps.length), t < j → ps[t].1 ≠ k) ∧ Below w.heap.size w wr2) (fun jv _ => ps.length - (intOf jv).toNat)
      case atStart => exact ⟨0, Nat.zero_le _, rfl, fun _ t _ ht => by omega, HNX.out⟩
      case round =>
        obtain ⟨j, hj, rfl, hin, hnx2⟩ := hrel
        have HIN := hide hin
        have HN2 := hide hnx2
        obtain ⟨c0, c1, c2⟩ := HD.out wr hnx2
        have C2 := hide c2
        clear hin hnx2 c2
        by_cases hjl : j < ps.length
        · have hji : (j : Int) < (ps.length : Int) := by omega
          obtain ⟨y0, y1⟩ := C2.out j hjl
          rw [Nat.zero_add] at y0 y1
          by_cases hX : X = h
          · have hXb : (X.toList == h.toList) = true := by rw [eq_beq]; exact decide_eq_true hX
            by_cases hK : ps[j].1 = k
            · have hKb : (ps[j].1.toList == k.toList) = true := by rw [eq_beq]; exact decide_eq_true hK
              have LK : Hid (lkV gs h k = some ps[j].2) := by
                have e : lkV gs h k = some ps[j].2 := by
                  rw [lk_some HR.out hlt (HX.out.symm.trans hX), ← HPS.out, pf_first KR.out hjl hK]; rfl
                exact e
              clear hX hK
              generalize ps[j].1 = K1 at *
              generalize ps[j].2 = V1 at *
              go_wp2_with fail
              go_ret2
              exact ⟨by rw [LK.out]; rfl, HN2.out⟩
            · have hKb : (ps[j].1.toList == k.toList) = false := by rw [eq_beq]; exact decide_eq_false hK
              have REL : Hid (X = h → ∀ t (ht : t < ps.length), t < j + 1 → ps[t].1 ≠ k) := by
                intro e t ht ht2
                rcases Nat.lt_or_ge t j with h5 | h5
                · exact HIN.out e t ht h5
                · obtain rfl : t = j := by omega
                  exact hK
              clear hX hK
              generalize ps[j].1 = K1 at *
              generalize ps[j].2 = V1 at *
              go_wp2_with fail
              go_roundw
              case rel => exact ⟨j + 1, by omega, by go_num, REL.out, HN2.out⟩
              case measure => simp [intOf]; omega
          · have hXb : (X.toList == h.toList) = false := by rw [eq_beq]; exact decide_eq_false hX
            have REL : Hid (X = h → ∀ t (ht : t < ps.length), t < j + 1 → ps[t].1 ≠ k) := fun e => absurd e hX
            clear hX
            generalize ps[j].1 = K1 at *
            generalize ps[j].2 = V1 at *
            go_wp2_with fail
            go_roundw
            case rel => exact ⟨j + 1, by omega, by go_num, REL.out, HN2.out⟩
            case measure => simp [intOf]; omega
        · have hji : ¬ (j : Int) < (ps.length : Int) := by omega
          have REL : Hid (∀ t (ht : t < gs.length), t < i + 1 → gs[t].1 = h → pairFor gs[t].2 k = none) := by
            intro t ht ht2 e
            rcases Nat.lt_or_ge t i with h5 | h5
            · exact HNO.out t ht h5 e
            · obtain rfl : t = i := by omega
              rw [← HPS.out]
              exact pf_never (fun u hu => HIN.out (HX.out.trans e) u hu (by omega))
          go_wp2_with fail
          go_roundw
          case rel => exact ⟨i + 1, by omega, by go_num, REL.out, HN2.out⟩
          case measure => simp [intOf]; omega
    · have hii : ¬ (i : Int) < (gs.length : Int) := by omega
      have LK : Hid (lkV gs h k = none) := by
        have e : lkV gs h k = none := by
          by_cases hx : ∃ t, ∃ (ht : t < gs.length), gs[t].1 = h
          · obtain ⟨t, ht, e⟩ := hx
            rw [lk_some HR.out ht e, hno t ht (by omega) e]; rfl
          · exact lk_none (fun t ht e => hx ⟨t, ht, e⟩)
        exact e
      have HNX := hide hnx
      clear hno hnx
      go_wp2_with fail
      go_ret2
      exact ⟨by rw [LK.out]; rfl, HNX.out⟩
end Go.Proofs.Ythihmgdefbahpaa
namespace Go.Proofs.Ythihmgdefbahpaa
open Go.RowKit
abbrev PU := ByteArray × ByteArray × ByteArray
def mkOne (k : Nat) (l : List GR) (p : PU) : List GR := putG l (fitB p.1 k) (kyd p.2.1, vld p.2.2)
def mkStep (k : Nat) (l : List GR) (p : PU) : List GR := if (encD (mkOne k l p)).length ≤ 65536 ∧ fullL (mkOne k l p) ≤ 512 then mkOne k l p else l
def mkG (k : Nat) (ps : List PU) : List GR := ps.foldl (mkStep k) []
/-- groups that are made -/
def MkOk (k : Nat) (l : List GR) : Prop := OkG k l ∧ (encD l).length ≤ 65536 ∧ fullL l ≤ 512
theorem encD_two (l : List GR) : 2 * l.length ≤ (encD l).length := by
  induction l with
  | nil => simp [encD]
  | cons a r ih =>
    unfold encD at ih ⊢
    rw [List.flatMap_cons, List.length_append, recL_len, List.length_cons]
    omega
theorem kv_in (p : PU) : 1 ≤ (kyd p.2.1).size ∧ (kyd p.2.1).size ≤ 255 ∧ (vld p.2.2).size ≤ 4096 := ⟨(kyd_size _).1, (kyd_size _).2, vld_size _⟩
theorem mkOne_ok {k : Nat} {l : List GR} (h : MkOk k l) (p : PU) : OkG k (mkOne k l p) := h.1.put (fitB_size _ _) (kv_in p)
theorem mkStep_ok {k : Nat} {l : List GR} (h : MkOk k l) (p : PU) : MkOk k (mkStep k l p) := by
  unfold mkStep
  by_cases c : (encD (mkOne k l p)).length ≤ 65536 ∧ fullL (mkOne k l p) ≤ 512
  · rw [if_pos c]; exact ⟨mkOne_ok h p, c.1, c.2⟩
  · rw [if_neg c]; exact h
theorem mk_nil (k : Nat) : MkOk k [] := ⟨⟨by simp [UpG], fun g hg => by cases hg⟩, by simp [encD], by simp [fullL]⟩
theorem mkG_take (k : Nat) (ps : List PU) (j : Nat) (h : j < ps.length) : mkG k (ps.take (j + 1)) = mkStep k (mkG k (ps.take j)) ps[j] := by
  unfold mkG
  rw [List.take_succ_eq_append_getElem h, List.foldl_append]; rfl
theorem mkG_ok (k : Nat) (ps : List PU) : MkOk k (mkG k ps) := by
  have : ∀ (ps : List PU) l, MkOk k l → MkOk k (ps.foldl (mkStep k) l) := by
    intro ps
    induction ps with
    | nil => intro l h; exact h
    | cons a r ih => intro l h; exact ih _ (mkStep_ok h a)
  exact this ps [] (mk_nil k)
theorem MkOk.len {k : Nat} {l : List GR} (h : MkOk k l) : l.length ≤ 32768 := by
  have := encD_two l
  have := h.2.1
  omega
theorem MkOk.pairs {k : Nat} {l : List GR} (h : MkOk k l) : ∀ g ∈ l, g.2.length ≤ 512 := fun _ hg => Nat.le_trans (fullL_mem hg) h.2.2
theorem MkOk.up {k : Nat} {l : List GR} (h : MkOk k l) : UpG l ∧ ∀ g ∈ l, UpP g.2 := ⟨h.1.1, fun g hg => (h.1.2 g hg).2.2.1⟩
theorem MkOk.enc {k : Nat} {l : List GR} (hk : 1 ≤ k ∧ k ≤ 16) (h : MkOk k l) : egE (k : Int) l = 0 := okG_enc hk h.1 h.2.2 h.2.1
theorem sizeL_bound {l : List KV} (h : ∀ p ∈ l, 1 ≤ p.1.size ∧ p.1.size ≤ 255 ∧ p.2.size ≤ 4096) : sizeL l ≤ l.length * 4357 := by
  induction l with
  | nil => simp [sizeL]
  | cons a r ih =>
    have := ih (fun p hp => h p (List.mem_cons_of_mem _ hp))
    have := h a List.mem_cons_self
    unfold sizeL
    rw [List.length_cons]
    omega
theorem encD_bound {l : List GR} {n : Nat} (h : ∀ g ∈ l, sizeL g.2 ≤ n) : (encD l).length ≤ l.length * (2 + n) := by
  induction l with
  | nil => simp [encD]
  | cons a r ih =>
    have h1 := ih (fun p hp => h p (List.mem_cons_of_mem _ hp))
    have := h a List.mem_cons_self
    unfold encD at h1 ⊢
    rw [List.flatMap_cons, List.length_append, recL_len, List.length_cons, Nat.add_mul]
    omega
theorem mkOne_len {k : Nat} {l : List GR} (h : MkOk k l) (p : PU) : (mkOne k l p).length ≤ 65537 ∧ (∀ g ∈ mkOne k l p, g.2.length ≤ 513) ∧ (encD (mkOne k l p)).length ≤ 1099511627776 := by
  have h1 : (mkOne k l p).length ≤ 32769 := by
    have := putG_len l (fitB p.1 k) (kyd p.2.1, vld p.2.2)
    have := h.len
    unfold mkOne
    omega
  have h2 : ∀ g ∈ mkOne k l p, g.2.length ≤ 513 := by
    intro g hg
    rcases putG_mem hg with ⟨_, e⟩ | e
    · rcases e with e | ⟨g', hg', _, e⟩
      · rw [e]; simp
      · rw [e]
        have := putP_len g'.2 (kyd p.2.1, vld p.2.2)
        have := h.pairs g' hg'
        omega
    · have := h.pairs g e
      omega
  refine ⟨by omega, h2, ?_⟩
  have h3 := encD_bound (l := mkOne k l p) (n := 2235141) (fun g hg => by
    have := sizeL_bound ((mkOne_ok h p).2 g hg).2.2.2
    have := h2 g hg
    omega)
  have : (mkOne k l p).length * (2 + 2235141) ≤ 32769 * (2 + 2235141) := Nat.mul_le_mul_right _ h1
  omega
/-- puts in memory -/
def PutsAt (w : World) (v : Value) (ps : List PU) : Prop := ∃ ao b off cap, v = .slice ao ps.length cap ∧ (0 < ps.length → ao = some ⟨b, off, none⟩) ∧ (0 < ps.length → b < w.heap.size) ∧
    ∀ i (hi : i < ps.length), w.cell? ⟨b, off + i * 3, none⟩ = some (.string ps[i].1) ∧ w.cell? ⟨b, off + i * 3 + 1, none⟩ = some (.string ps[i].2.1) ∧ w.cell? ⟨b, off + i * 3 + 2, none⟩ = some (.string ps[i].2.2)
theorem PutsAt.below {w w' : World} {v : Value} {ps : List PU} (h : PutsAt w v ps) (hb : Below w.heap.size w w') : PutsAt w' v ps := by
  obtain ⟨ao, b, off, cap, h1, h2, h3, h4⟩ := h
  refine ⟨ao, b, off, cap, h1, h2, fun z => Nat.lt_of_lt_of_le (h3 z) hb.size, fun i hi => ?_⟩
  have hz := h3 (by omega)
  rw [hb.cell (by exact hz), hb.cell (by exact hz), hb.cell (by exact hz)]
  exact h4 i hi
end Go.Proofs.Ythihmgdefbahpaa
namespace Go.Proofs.Ythihmgdefbahpaa
open Go.RowKit
theorem fullL_snoc (l : List GR) (g : GR) : fullL (l ++ [g]) = max (fullL l) g.2.length := by
  induction l with
  | nil => simp [fullL]
  | cons a r ih => simp only [List.cons_append, fullL, ih]; omega
theorem fullL_take (gs : List GR) (j : Nat) (h : j < gs.length) : fullL (gs.take (j + 1)) = max (fullL (gs.take j)) gs[j].2.length := by
  rw [List.take_succ_eq_append_getElem h, fullL_snoc]
theorem fullL_le {l : List GR} {n : Nat} (h : ∀ g ∈ l, g.2.length ≤ n) : fullL l ≤ n := by
  induction l with
  | nil => simp [fullL]
  | cons a r ih =>
    have := ih (fun g hg => h g (List.mem_cons_of_mem _ hg))
    have := h a List.mem_cons_self
    unfold fullL; omega
theorem encDn_take (gs : List GR) (j : Nat) (h : j < gs.length) : (encD (gs.take (j + 1))).length = (encD (gs.take j)).length + (2 + sizeL gs[j].2) := by
  rw [encD_take gs j h, List.length_append, recL_len]
theorem sizeL_le (ps : List KV) (j : Nat) : sizeL (ps.take j) ≤ sizeL ps := by
  conv => rhs; rw [← List.take_append_drop j ps]
  rw [sizeL_append]; omega
set_option maxHeartbeats 2000000 in
set_option maxRecDepth 100000 in
set_option linter.unusedSimpArgs false in
/-- weight -/
theorem weight_any (v : Value) (base : Nat) (gs : List GR) (w : World) (hG : GroupsAt w base v gs) (hlen : gs.length ≤ 65537) (hps : ∀ g ∈ gs, g.2.length ≤ 65537) (hz : (encD gs).length ≤ 1099511627776) :
    Calls Try.prog 49 #[v] w fun e w' => e = .returned (.tuple #[.int .i64 ((encD gs).length : Int), .int .i64 (fullL gs : Int)]) ∧ Below w.heap.size w w' := by
  obtain ⟨ao, g, cap, rfl, h1, h2, h3⟩ := hG.split
  have H3 := hide h3
  have HPS := hide hps
  clear hG h3 hps
  go_enter Try.func49, Try.ntmps49
  go_wp2_with fail
  go_loopw [4, 5, 6] (fun n f i wr => ∃ j : Nat, j ≤ gs.length ∧ i = .int .i64 j ∧ n = .int .i64 ((encD (gs.take j)).length : Int) ∧ f = .int .i64 (fullL (gs.take j) : Int) ∧ Below w.heap.size w wr) (fun _ _ i _ => gs.length - (intOf i).toNat)
  case atStart => exact ⟨0, Nat.zero_le _, rfl, rfl, rfl, Below.refl _ _⟩
  case round =>
    obtain ⟨i, hi, rfl, rfl, rfl, hnx⟩ := hrel
    by_cases hlt : i < gs.length
    · obtain rfl := h1 (by omega)
      have t1 := h2 (by omega)
      obtain ⟨p1, d1, d2, d3⟩ := H3.out i hlt
      obtain ⟨q1, r1, u1, rfl, x11, x12, x13⟩ := own_pairs d3
      have hpl := HPS.out _ (List.getElem_mem hlt)
      have E1 := hide (encDn_take gs i hlt)
      have E2 := hide (fullL_take gs i hlt)
      have hle := encD_le gs (i + 1)
      have hfl : fullL (gs.take i) ≤ 65537 := fullL_le (fun x hx => HPS.out x (List.mem_of_mem_take hx))
      obtain ⟨ps, hps⟩ : ∃ ps, ps = gs[i].2 := ⟨_, rfl⟩
      obtain ⟨X, hX⟩ : ∃ X, X = gs[i].1 := ⟨_, rfl⟩
      have hn : (encD (gs.take i)).length + (2 + sizeL ps) ≤ 1099511627776 := by
        have := E1.out
        rw [← hps] at this
        omega
      have RE : Hid ((encD (gs.take (i + 1))).length = (encD (gs.take i)).length + (2 + sizeL ps) ∧ fullL (gs.take (i + 1)) = max (fullL (gs.take i)) ps.length) := ⟨by rw [hps]; exact E1.out, by rw [hps]; exact E2.out⟩
      rw [← hps] at d2 d3 x11 x12 x13 hpl
      rw [← hX] at d1
      clear E1 E2 hle hps hX
      generalize hN : (encD (gs.take i)).length = N at *
      generalize hF : fullL (gs.take i) = Fu at *
      have HD : Hid (∀ w', Below w.heap.size w w' → w'.cell? ⟨g, i * 2, none⟩ = some (.string X) ∧ w'.cell? ⟨g, i * 2 + 1, none⟩ = some (.slice q1 ps.length u1)) := fun w' hw => by
        rw [hw.cell (by exact t1), hw.cell (by exact t1)]
        exact ⟨d1, d2⟩
      have HL : Hid (∀ w', Below w.heap.size w w' → ∀ j (hj : j < ps.length), q1 = some ⟨r1, 0, none⟩ ∧ w'.cell? ⟨r1, j * 2, none⟩ = some (.string ps[j].1) ∧ w'.cell? ⟨r1, j * 2 + 1, none⟩ = some (.string ps[j].2)) := fun w' hw j hj => by
        have := (x13.below (x12 (by omega)) hw) j hj
        rw [Nat.zero_add] at this
        exact ⟨x11 (by omega), this⟩
      have HNX := hide hnx
      have hii : (i : Int) < (gs.length : Int) := by omega
      obtain ⟨c0, c1⟩ := HD.out wr hnx
      clear d1 d2 d3 x11 x12 x13 hnx hN hF
      by_cases hfu : Fu < ps.length
      · have hfi : (Fu : Int) < (ps.length : Int) := by omega
        have hmx : Hid (max Fu ps.length = ps.length) := by
          have e : max Fu ps.length = ps.length := by omega
          exact e
        go_wp2_with fail
        go_loopw [4, 7] (fun n jv wr2 => ∃ j : Nat, j ≤ ps.length ∧ jv = .int .i64 j ∧ n = .int .i64 ((N + 2 + sizeL (ps.take j) : Nat) : Int) ∧ Below w.heap.size w wr2) (fun _ jv _ => ps.length - (intOf jv).toNat)
        case atStart => exact ⟨0, Nat.zero_le _, rfl, by simp [sizeL], HNX.out⟩
        case round =>
          obtain ⟨j, hj, rfl, rfl, hnx2⟩ := hrel
          have HN2 := hide hnx2
          obtain ⟨e0, e1⟩ := HD.out wr hnx2
          have hle := sizeL_le ps j
          by_cases hjl : j < ps.length
          · have hji : (j : Int) < (ps.length : Int) := by omega
            obtain ⟨rfl, y0, y1⟩ := HL.out wr hnx2 j hjl
            have hsum := sizeL_take ps j hjl
            have hle2 := sizeL_le ps (j + 1)
            clear hnx2 c0 c1
            generalize ps[j].1 = K1 at *
            generalize ps[j].2 = V1 at *
            generalize sizeL (ps.take j) = S0 at *
            obtain ⟨S1, hS⟩ : ∃ S1, S1 = sizeL (ps.take (j + 1)) := ⟨_, rfl⟩
            rw [← hS] at hsum hle2
            have HS := hide hS
            clear hS
            obtain ⟨A, hA⟩ : ∃ A : Int, A = ((N + 2 + S0 : Nat) : Int) := ⟨_, rfl⟩
            have hA1 : 0 ≤ A := by omega
            have hA2 : A + 6 + (K1.size : Int) + (V1.size : Int) ≤ 1099511627776 := by omega
            have RA : Hid (A + 6 + (K1.size : Int) + (V1.size : Int) = ((N + 2 + S1 : Nat) : Int)) := by
              have e : A + 6 + (K1.size : Int) + (V1.size : Int) = ((N + 2 + S1 : Nat) : Int) := by omega
              exact e
            rw [← hA]
            clear hA hsum hle hle2
            go_wp2_with fail
            refine wp_region_held_drew (S := fun w' => w'.cell? ⟨g, i * 2 + 1, none⟩ = some (.slice (some ⟨r1, 0, none⟩) ps.length u1) ∧ w'.cell? ⟨r1, j * 2, none⟩ = some (.string K1) ∧ w'.cell? ⟨r1, j * 2 + 1, none⟩ = some (.string V1)) (by kernel_rfl) ⟨by first | exact e1 | simpa using e1, by first | exact y0 | simpa using y0, by first | exact y1 | simpa using y1⟩ (fun hHeld => ?_)
            refine wpAnyH_take (i := 0) (v := (.int .i64 A)) rfl (by kernel_rfl) (by kernel_rfl) (by kernel_rfl) (fun _ _ _ h => h) (Or.inl ⟨by rfl, ?_⟩) (by assumption) ?_
            · intro w' hSw
              (try dsimp only at hSw)
              go_simp <;> first | exact i64_in (by omega) (by omega) | exact u32_in (by omega) (by omega) | exact u32_add _ _ | (rw [Int.tmod_eq_emod_of_nonneg (by omega)]; omega) | (rw [Int.tdiv_eq_ediv_of_nonneg (by omega)]; omega) | omega
            (try simp only [Act.put, List.setIfInBounds_toArray, List.set_cons_zero, List.set_cons_succ])
            refine wpAnyH_take (i := 1) (v := (.int .i64 (A + 6))) rfl (by kernel_rfl) (by kernel_rfl) (by kernel_rfl) (fun _ _ _ h => h) (Or.inl ⟨by rfl, ?_⟩) (by assumption) ?_
            · intro w' hSw
              (try dsimp only at hSw)
              go_simp <;> first | exact i64_in (by omega) (by omega) | exact u32_in (by omega) (by omega) | exact u32_add _ _ | (rw [Int.tmod_eq_emod_of_nonneg (by omega)]; omega) | (rw [Int.tdiv_eq_ediv_of_nonneg (by omega)]; omega) | omega
            (try simp only [Act.put, List.setIfInBounds_toArray, List.set_cons_zero, List.set_cons_succ])
            refine wpAnyH_take (i := 2) (v := (.slice (some ⟨g, 0, none⟩) gs.length cap)) rfl (by kernel_rfl) (by kernel_rfl) (by kernel_rfl) (fun _ _ _ h => h) (Or.inl ⟨by rfl, ?_⟩) (by assumption) ?_
            · intro w' hSw
              (try dsimp only at hSw)
              go_simp <;> first | exact i64_in (by omega) (by omega) | exact u32_in (by omega) (by omega) | exact u32_add _ _ | (rw [Int.tmod_eq_emod_of_nonneg (by omega)]; omega) | (rw [Int.tdiv_eq_ediv_of_nonneg (by omega)]; omega) | omega
            (try simp only [Act.put, List.setIfInBounds_toArray, List.set_cons_zero, List.set_cons_succ])
            refine wpAnyH_take (i := 3) (v := (.int .i64 (i : Int))) rfl (by kernel_rfl) (by kernel_rfl) (by kernel_rfl) (fun _ _ _ h => h) (Or.inl ⟨by rfl, ?_⟩) (by assumption) ?_
            · intro w' hSw
              (try dsimp only at hSw)
              go_simp <;> first | exact i64_in (by omega) (by omega) | exact u32_in (by omega) (by omega) | exact u32_add _ _ | (rw [Int.tmod_eq_emod_of_nonneg (by omega)]; omega) | (rw [Int.tdiv_eq_ediv_of_nonneg (by omega)]; omega) | omega
            (try simp only [Act.put, List.setIfInBounds_toArray, List.set_cons_zero, List.set_cons_succ])
            refine wpAnyH_take (i := 4) (v := (.pointer (some ⟨g, i * 2, none⟩))) rfl (by kernel_rfl) (by kernel_rfl) (by kernel_rfl) (fun _ _ _ h => h) (Or.inl ⟨by rfl, ?_⟩) (by assumption) ?_
            · intro w' hSw
              (try dsimp only at hSw)
              go_simp <;> first | exact i64_in (by omega) (by omega) | exact u32_in (by omega) (by omega) | exact u32_add _ _ | (rw [Int.tmod_eq_emod_of_nonneg (by omega)]; omega) | (rw [Int.tdiv_eq_ediv_of_nonneg (by omega)]; omega) | omega
            (try simp only [Act.put, List.setIfInBounds_toArray, List.set_cons_zero, List.set_cons_succ])
            refine wpAnyH_take (i := 5) (v := (.pointer (some ⟨g, i * 2 + 1, none⟩))) rfl (by kernel_rfl) (by kernel_rfl) (by kernel_rfl) (fun _ _ _ h => h) (Or.inl ⟨by rfl, ?_⟩) (by assumption) ?_
            · intro w' hSw
              (try dsimp only at hSw)
              go_simp <;> first | exact i64_in (by omega) (by omega) | exact u32_in (by omega) (by omega) | exact u32_add _ _ | (rw [Int.tmod_eq_emod_of_nonneg (by omega)]; omega) | (rw [Int.tdiv_eq_ediv_of_nonneg (by omega)]; omega) | omega
            (try simp only [Act.put, List.setIfInBounds_toArray, List.set_cons_zero, List.set_cons_succ])
            refine wpAnyH_take (i := 6) (v := (.slice (some ⟨r1, 0, none⟩) ps.length u1)) rfl (by kernel_rfl) (by kernel_rfl) (by kernel_rfl) (fun _ _ _ h => h) (Or.inl ⟨by rfl, ?_⟩) (by assumption) ?_
            · intro w' hSw
              (try dsimp only at hSw)
              (obtain ⟨hS1, hS2, hS3⟩ := hSw; go_simp)
            (try simp only [Act.put, List.setIfInBounds_toArray, List.set_cons_zero, List.set_cons_succ])
            refine wpAnyH_take (i := 7) (v := (.int .i64 (j : Int))) rfl (by kernel_rfl) (by kernel_rfl) (by kernel_rfl) (fun _ _ _ h => h) (Or.inl ⟨by rfl, ?_⟩) (by assumption) ?_
            · intro w' hSw
              (try dsimp only at hSw)
              go_simp <;> first | exact i64_in (by omega) (by omega) | exact u32_in (by omega) (by omega) | exact u32_add _ _ | (rw [Int.tmod_eq_emod_of_nonneg (by omega)]; omega) | (rw [Int.tdiv_eq_ediv_of_nonneg (by omega)]; omega) | omega
            (try simp only [Act.put, List.setIfInBounds_toArray, List.set_cons_zero, List.set_cons_succ])
            refine wpAnyH_take (i := 8) (v := (.pointer (some ⟨r1, j * 2, none⟩))) rfl (by kernel_rfl) (by kernel_rfl) (by kernel_rfl) (fun _ _ _ h => h) (Or.inl ⟨by rfl, ?_⟩) (by assumption) ?_
            · intro w' hSw
              (try dsimp only at hSw)
              go_simp <;> first | exact i64_in (by omega) (by omega) | exact u32_in (by omega) (by omega) | exact u32_add _ _ | (rw [Int.tmod_eq_emod_of_nonneg (by omega)]; omega) | (rw [Int.tdiv_eq_ediv_of_nonneg (by omega)]; omega) | omega
            (try simp only [Act.put, List.setIfInBounds_toArray, List.set_cons_zero, List.set_cons_succ])
            refine wpAnyH_take (i := 9) (v := (.pointer (some ⟨r1, j * 2, none⟩))) rfl (by kernel_rfl) (by kernel_rfl) (by kernel_rfl) (fun _ _ _ h => h) (Or.inl ⟨by rfl, ?_⟩) (by assumption) ?_
            · intro w' hSw
              (try dsimp only at hSw)
              go_simp <;> first | exact i64_in (by omega) (by omega) | exact u32_in (by omega) (by omega) | exact u32_add _ _ | (rw [Int.tmod_eq_emod_of_nonneg (by omega)]; omega) | (rw [Int.tdiv_eq_ediv_of_nonneg (by omega)]; omega) | omega
            (try simp only [Act.put, List.setIfInBounds_toArray, List.set_cons_zero, List.set_cons_succ])
            refine wpAnyH_take (i := 10) (v := (.string K1)) rfl (by kernel_rfl) (by kernel_rfl) (by kernel_rfl) (fun _ _ _ h => h) (Or.inl ⟨by rfl, ?_⟩) (by assumption) ?_
            · intro w' hSw
              (try dsimp only at hSw)
              (obtain ⟨hS1, hS2, hS3⟩ := hSw; go_simp)
            (try simp only [Act.put, List.setIfInBounds_toArray, List.set_cons_zero, List.set_cons_succ])
            refine wpAnyH_take (i := 11) (v := (.int .i64 (K1.size : Int))) rfl (by kernel_rfl) (by kernel_rfl) (by kernel_rfl) (fun _ _ _ h => h) (Or.inl ⟨by rfl, ?_⟩) (by assumption) ?_
            · intro w' hSw
              (try dsimp only at hSw)
              go_simp <;> first | exact i64_in (by omega) (by omega) | exact u32_in (by omega) (by omega) | exact u32_add _ _ | (rw [Int.tmod_eq_emod_of_nonneg (by omega)]; omega) | (rw [Int.tdiv_eq_ediv_of_nonneg (by omega)]; omega) | omega
            (try simp only [Act.put, List.setIfInBounds_toArray, List.set_cons_zero, List.set_cons_succ])
            refine wpAnyH_take (i := 12) (v := (.int .i64 (A + 6 + (K1.size : Int)))) rfl (by kernel_rfl) (by kernel_rfl) (by kernel_rfl) (fun _ _ _ h => h) (Or.inl ⟨by rfl, ?_⟩) (by assumption) ?_
            · intro w' hSw
              (try dsimp only at hSw)
              go_simp <;> first | exact i64_in (by omega) (by omega) | exact u32_in (by omega) (by omega) | exact u32_add _ _ | (rw [Int.tmod_eq_emod_of_nonneg (by omega)]; omega) | (rw [Int.tdiv_eq_ediv_of_nonneg (by omega)]; omega) | omega
            (try simp only [Act.put, List.setIfInBounds_toArray, List.set_cons_zero, List.set_cons_succ])
            refine wpAnyH_take (i := 13) (v := (.slice (some ⟨g, 0, none⟩) gs.length cap)) rfl (by kernel_rfl) (by kernel_rfl) (by kernel_rfl) (fun _ _ _ h => h) (Or.inl ⟨by rfl, ?_⟩) (by assumption) ?_
            · intro w' hSw
              (try dsimp only at hSw)
              go_simp <;> first | exact i64_in (by omega) (by omega) | exact u32_in (by omega) (by omega) | exact u32_add _ _ | (rw [Int.tmod_eq_emod_of_nonneg (by omega)]; omega) | (rw [Int.tdiv_eq_ediv_of_nonneg (by omega)]; omega) | omega
            (try simp only [Act.put, List.setIfInBounds_toArray, List.set_cons_zero, List.set_cons_succ])
            refine wpAnyH_take (i := 14) (v := (.int .i64 (i : Int))) rfl (by kernel_rfl) (by kernel_rfl) (by kernel_rfl) (fun _ _ _ h => h) (Or.inl ⟨by rfl, ?_⟩) (by assumption) ?_
            · intro w' hSw
              (try dsimp only at hSw)
              go_simp <;> first | exact i64_in (by omega) (by omega) | exact u32_in (by omega) (by omega) | exact u32_add _ _ | (rw [Int.tmod_eq_emod_of_nonneg (by omega)]; omega) | (rw [Int.tdiv_eq_ediv_of_nonneg (by omega)]; omega) | omega
            (try simp only [Act.put, List.setIfInBounds_toArray, List.set_cons_zero, List.set_cons_succ])
            refine wpAnyH_take (i := 15) (v := (.pointer (some ⟨g, i * 2, none⟩))) rfl (by kernel_rfl) (by kernel_rfl) (by kernel_rfl) (fun _ _ _ h => h) (Or.inl ⟨by rfl, ?_⟩) (by assumption) ?_
            · intro w' hSw
              (try dsimp only at hSw)
              go_simp <;> first | exact i64_in (by omega) (by omega) | exact u32_in (by omega) (by omega) | exact u32_add _ _ | (rw [Int.tmod_eq_emod_of_nonneg (by omega)]; omega) | (rw [Int.tdiv_eq_ediv_of_nonneg (by omega)]; omega) | omega
            (try simp only [Act.put, List.setIfInBounds_toArray, List.set_cons_zero, List.set_cons_succ])
            refine wpAnyH_take (i := 16) (v := (.pointer (some ⟨g, i * 2 + 1, none⟩))) rfl (by kernel_rfl) (by kernel_rfl) (by kernel_rfl) (fun _ _ _ h => h) (Or.inl ⟨by rfl, ?_⟩) (by assumption) ?_
            · intro w' hSw
              (try dsimp only at hSw)
              go_simp <;> first | exact i64_in (by omega) (by omega) | exact u32_in (by omega) (by omega) | exact u32_add _ _ | (rw [Int.tmod_eq_emod_of_nonneg (by omega)]; omega) | (rw [Int.tdiv_eq_ediv_of_nonneg (by omega)]; omega) | omega
            (try simp only [Act.put, List.setIfInBounds_toArray, List.set_cons_zero, List.set_cons_succ])
            refine wpAnyH_take (i := 17) (v := (.slice (some ⟨r1, 0, none⟩) ps.length u1)) rfl (by kernel_rfl) (by kernel_rfl) (by kernel_rfl) (fun _ _ _ h => h) (Or.inl ⟨by rfl, ?_⟩) (by assumption) ?_
            · intro w' hSw
              (try dsimp only at hSw)
              (obtain ⟨hS1, hS2, hS3⟩ := hSw; go_simp)
            (try simp only [Act.put, List.setIfInBounds_toArray, List.set_cons_zero, List.set_cons_succ])
            refine wpAnyH_take (i := 18) (v := (.int .i64 (j : Int))) rfl (by kernel_rfl) (by kernel_rfl) (by kernel_rfl) (fun _ _ _ h => h) (Or.inl ⟨by rfl, ?_⟩) (by assumption) ?_
            · intro w' hSw
              (try dsimp only at hSw)
              go_simp <;> first | exact i64_in (by omega) (by omega) | exact u32_in (by omega) (by omega) | exact u32_add _ _ | (rw [Int.tmod_eq_emod_of_nonneg (by omega)]; omega) | (rw [Int.tdiv_eq_ediv_of_nonneg (by omega)]; omega) | omega
            (try simp only [Act.put, List.setIfInBounds_toArray, List.set_cons_zero, List.set_cons_succ])
            refine wpAnyH_take (i := 19) (v := (.pointer (some ⟨r1, j * 2, none⟩))) rfl (by kernel_rfl) (by kernel_rfl) (by kernel_rfl) (fun _ _ _ h => h) (Or.inl ⟨by rfl, ?_⟩) (by assumption) ?_
            · intro w' hSw
              (try dsimp only at hSw)
              go_simp <;> first | exact i64_in (by omega) (by omega) | exact u32_in (by omega) (by omega) | exact u32_add _ _ | (rw [Int.tmod_eq_emod_of_nonneg (by omega)]; omega) | (rw [Int.tdiv_eq_ediv_of_nonneg (by omega)]; omega) | omega
            (try simp only [Act.put, List.setIfInBounds_toArray, List.set_cons_zero, List.set_cons_succ])
            refine wpAnyH_take (i := 20) (v := (.pointer (some ⟨r1, j * 2 + 1, none⟩))) rfl (by kernel_rfl) (by kernel_rfl) (by kernel_rfl) (fun _ _ _ h => h) (Or.inl ⟨by rfl, ?_⟩) (by assumption) ?_
            · intro w' hSw
              (try dsimp only at hSw)
              go_simp <;> first | exact i64_in (by omega) (by omega) | exact u32_in (by omega) (by omega) | exact u32_add _ _ | (rw [Int.tmod_eq_emod_of_nonneg (by omega)]; omega) | (rw [Int.tdiv_eq_ediv_of_nonneg (by omega)]; omega) | omega
            (try simp only [Act.put, List.setIfInBounds_toArray, List.set_cons_zero, List.set_cons_succ])
            refine wpAnyH_take (i := 21) (v := (.string V1)) rfl (by kernel_rfl) (by kernel_rfl) (by kernel_rfl) (fun _ _ _ h => h) (Or.inl ⟨by rfl, ?_⟩) (by assumption) ?_
            · intro w' hSw
              (try dsimp only at hSw)
              (obtain ⟨hS1, hS2, hS3⟩ := hSw; go_simp)
            (try simp only [Act.put, List.setIfInBounds_toArray, List.set_cons_zero, List.set_cons_succ])
            refine wpAnyH_take (i := 22) (v := (.int .i64 (V1.size : Int))) rfl (by kernel_rfl) (by kernel_rfl) (by kernel_rfl) (fun _ _ _ h => h) (Or.inl ⟨by rfl, ?_⟩) (by assumption) ?_
            · intro w' hSw
              (try dsimp only at hSw)
              go_simp <;> first | exact i64_in (by omega) (by omega) | exact u32_in (by omega) (by omega) | exact u32_add _ _ | (rw [Int.tmod_eq_emod_of_nonneg (by omega)]; omega) | (rw [Int.tdiv_eq_ediv_of_nonneg (by omega)]; omega) | omega
            (try simp only [Act.put, List.setIfInBounds_toArray, List.set_cons_zero, List.set_cons_succ])
            refine wpAnyH_take (i := 23) (v := (.int .i64 (A + 6 + (K1.size : Int) + (V1.size : Int)))) rfl (by kernel_rfl) (by kernel_rfl) (by kernel_rfl) (fun _ _ _ h => h) (Or.inl ⟨by rfl, ?_⟩) (by assumption) ?_
            · intro w' hSw
              (try dsimp only at hSw)
              go_simp <;> first | exact i64_in (by omega) (by omega) | exact u32_in (by omega) (by omega) | exact u32_add _ _ | (rw [Int.tmod_eq_emod_of_nonneg (by omega)]; omega) | (rw [Int.tdiv_eq_ediv_of_nonneg (by omega)]; omega) | omega
            (try simp only [Act.put, List.setIfInBounds_toArray, List.set_cons_zero, List.set_cons_succ])
            refine wpAnyH_ready (rs := [24]) (by kernel_rfl) (by simp) ?_
            refine AllReadyH.cons rfl (fun K hK => ?_) AllReadyH.nil
            go_simp
            refine hK.out _ _ ⟨by first | exact e1 | simpa using e1, by first | exact y0 | simpa using y0, by first | exact y1 | simpa using y1⟩ (fun hHeld => ?_)
            clear hK
            (try simp only [Act.put, List.setIfInBounds_toArray, List.set_cons_zero, List.set_cons_succ])
            refine wpAnyH_done (by kernel_rfl) ?_ _
            go_wp2_with fail
            go_roundw
            case rel => exact ⟨j + 1, by omega, by go_num, by rw [RA.out, HS.out], by first | exact HN2.out.drew | exact HN2.out⟩
            case measure => simp [intOf]; omega
          · obtain rfl : j = ps.length := by omega
            have hji : ¬ ((ps.length : Int) < (ps.length : Int)) := by omega
            clear hnx2 c0 c1 hle
            rw [List.take_length] at *
            have R1 : Hid ((N + 2 + sizeL ps : Nat) = (encD (gs.take (i + 1))).length) := (show N + 2 + sizeL ps = N + (2 + sizeL ps) by omega).trans RE.out.1.symm
            have R2 : Hid (ps.length = fullL (gs.take (i + 1))) := hmx.out.symm.trans RE.out.2.symm
            go_wp2_with fail
            go_roundw
            case rel => exact ⟨i + 1, by omega, by go_num, by rw [R1.out], by rw [← R2.out], HN2.out⟩
            case measure => simp [intOf]; omega
      · have hfi : ¬ (Fu : Int) < (ps.length : Int) := by omega
        have hmx : Hid (max Fu ps.length = Fu) := by
          have e : max Fu ps.length = Fu := by omega
          exact e
        go_wp2_with fail
        go_loopw [4, 7] (fun n jv wr2 => ∃ j : Nat, j ≤ ps.length ∧ jv = .int .i64 j ∧ n = .int .i64 ((N + 2 + sizeL (ps.take j) : Nat) : Int) ∧ Below w.heap.size w wr2) (fun _ jv _ => ps.length - (intOf jv).toNat)
        case atStart => exact ⟨0, Nat.zero_le _, rfl, by simp [sizeL], HNX.out⟩
        case round =>
          obtain ⟨j, hj, rfl, rfl, hnx2⟩ := hrel
          have HN2 := hide hnx2
          obtain ⟨e0, e1⟩ := HD.out wr hnx2
          have hle := sizeL_le ps j
          by_cases hjl : j < ps.length
          · have hji : (j : Int) < (ps.length : Int) := by omega
            obtain ⟨rfl, y0, y1⟩ := HL.out wr hnx2 j hjl
            have hsum := sizeL_take ps j hjl
            have hle2 := sizeL_le ps (j + 1)
            clear hnx2 c0 c1
            generalize ps[j].1 = K1 at *
            generalize ps[j].2 = V1 at *
            generalize sizeL (ps.take j) = S0 at *
            obtain ⟨S1, hS⟩ : ∃ S1, S1 = sizeL (ps.take (j + 1)) := ⟨_, rfl⟩
            rw [← hS] at hsum hle2
            have HS := hide hS
            clear hS
            obtain ⟨A, hA⟩ : ∃ A : Int, A = ((N + 2 + S0 : Nat) : Int) := ⟨_, rfl⟩
            have hA1 : 0 ≤ A := by omega
            have hA2 : A + 6 + (K1.size : Int) + (V1.size : Int) ≤ 1099511627776 := by omega
            have RA : Hid (A + 6 + (K1.size : Int) + (V1.size : Int) = ((N + 2 + S1 : Nat) : Int)) := by
              have e : A + 6 + (K1.size : Int) + (V1.size : Int) = ((N + 2 + S1 : Nat) : Int) := by omega
              exact e
            rw [← hA]
            clear hA hsum hle hle2
            go_wp2_with fail
            refine wp_region_held_drew (S := fun w' => w'.cell? ⟨g, i * 2 + 1, none⟩ = some (.slice (some ⟨r1, 0, none⟩) ps.length u1) ∧ w'.cell? ⟨r1, j * 2, none⟩ = some (.string K1) ∧ w'.cell? ⟨r1, j * 2 + 1, none⟩ = some (.string V1)) (by kernel_rfl) ⟨by first | exact e1 | simpa using e1, by first | exact y0 | simpa using y0, by first | exact y1 | simpa using y1⟩ (fun hHeld => ?_)
            refine wpAnyH_take (i := 0) (v := (.int .i64 A)) rfl (by kernel_rfl) (by kernel_rfl) (by kernel_rfl) (fun _ _ _ h => h) (Or.inl ⟨by rfl, ?_⟩) (by assumption) ?_
            · intro w' hSw
              (try dsimp only at hSw)
              go_simp <;> first | exact i64_in (by omega) (by omega) | exact u32_in (by omega) (by omega) | exact u32_add _ _ | (rw [Int.tmod_eq_emod_of_nonneg (by omega)]; omega) | (rw [Int.tdiv_eq_ediv_of_nonneg (by omega)]; omega) | omega
            (try simp only [Act.put, List.setIfInBounds_toArray, List.set_cons_zero, List.set_cons_succ])
            refine wpAnyH_take (i := 1) (v := (.int .i64 (A + 6))) rfl (by kernel_rfl) (by kernel_rfl) (by kernel_rfl) (fun _ _ _ h => h) (Or.inl ⟨by rfl, ?_⟩) (by assumption) ?_
            · intro w' hSw
              (try dsimp only at hSw)
              go_simp <;> first | exact i64_in (by omega) (by omega) | exact u32_in (by omega) (by omega) | exact u32_add _ _ | (rw [Int.tmod_eq_emod_of_nonneg (by omega)]; omega) | (rw [Int.tdiv_eq_ediv_of_nonneg (by omega)]; omega) | omega
            (try simp only [Act.put, List.setIfInBounds_toArray, List.set_cons_zero, List.set_cons_succ])
            refine wpAnyH_take (i := 2) (v := (.slice (some ⟨g, 0, none⟩) gs.length cap)) rfl (by kernel_rfl) (by kernel_rfl) (by kernel_rfl) (fun _ _ _ h => h) (Or.inl ⟨by rfl, ?_⟩) (by assumption) ?_
            · intro w' hSw
              (try dsimp only at hSw)
              go_simp <;> first | exact i64_in (by omega) (by omega) | exact u32_in (by omega) (by omega) | exact u32_add _ _ | (rw [Int.tmod_eq_emod_of_nonneg (by omega)]; omega) | (rw [Int.tdiv_eq_ediv_of_nonneg (by omega)]; omega) | omega
            (try simp only [Act.put, List.setIfInBounds_toArray, List.set_cons_zero, List.set_cons_succ])
            refine wpAnyH_take (i := 3) (v := (.int .i64 (i : Int))) rfl (by kernel_rfl) (by kernel_rfl) (by kernel_rfl) (fun _ _ _ h => h) (Or.inl ⟨by rfl, ?_⟩) (by assumption) ?_
            · intro w' hSw
              (try dsimp only at hSw)
              go_simp <;> first | exact i64_in (by omega) (by omega) | exact u32_in (by omega) (by omega) | exact u32_add _ _ | (rw [Int.tmod_eq_emod_of_nonneg (by omega)]; omega) | (rw [Int.tdiv_eq_ediv_of_nonneg (by omega)]; omega) | omega
            (try simp only [Act.put, List.setIfInBounds_toArray, List.set_cons_zero, List.set_cons_succ])
            refine wpAnyH_take (i := 4) (v := (.pointer (some ⟨g, i * 2, none⟩))) rfl (by kernel_rfl) (by kernel_rfl) (by kernel_rfl) (fun _ _ _ h => h) (Or.inl ⟨by rfl, ?_⟩) (by assumption) ?_
            · intro w' hSw
              (try dsimp only at hSw)
              go_simp <;> first | exact i64_in (by omega) (by omega) | exact u32_in (by omega) (by omega) | exact u32_add _ _ | (rw [Int.tmod_eq_emod_of_nonneg (by omega)]; omega) | (rw [Int.tdiv_eq_ediv_of_nonneg (by omega)]; omega) | omega
            (try simp only [Act.put, List.setIfInBounds_toArray, List.set_cons_zero, List.set_cons_succ])
            refine wpAnyH_take (i := 5) (v := (.pointer (some ⟨g, i * 2 + 1, none⟩))) rfl (by kernel_rfl) (by kernel_rfl) (by kernel_rfl) (fun _ _ _ h => h) (Or.inl ⟨by rfl, ?_⟩) (by assumption) ?_
            · intro w' hSw
              (try dsimp only at hSw)
              go_simp <;> first | exact i64_in (by omega) (by omega) | exact u32_in (by omega) (by omega) | exact u32_add _ _ | (rw [Int.tmod_eq_emod_of_nonneg (by omega)]; omega) | (rw [Int.tdiv_eq_ediv_of_nonneg (by omega)]; omega) | omega
            (try simp only [Act.put, List.setIfInBounds_toArray, List.set_cons_zero, List.set_cons_succ])
            refine wpAnyH_take (i := 6) (v := (.slice (some ⟨r1, 0, none⟩) ps.length u1)) rfl (by kernel_rfl) (by kernel_rfl) (by kernel_rfl) (fun _ _ _ h => h) (Or.inl ⟨by rfl, ?_⟩) (by assumption) ?_
            · intro w' hSw
              (try dsimp only at hSw)
              (obtain ⟨hS1, hS2, hS3⟩ := hSw; go_simp)
            (try simp only [Act.put, List.setIfInBounds_toArray, List.set_cons_zero, List.set_cons_succ])
            refine wpAnyH_take (i := 7) (v := (.int .i64 (j : Int))) rfl (by kernel_rfl) (by kernel_rfl) (by kernel_rfl) (fun _ _ _ h => h) (Or.inl ⟨by rfl, ?_⟩) (by assumption) ?_
            · intro w' hSw
              (try dsimp only at hSw)
              go_simp <;> first | exact i64_in (by omega) (by omega) | exact u32_in (by omega) (by omega) | exact u32_add _ _ | (rw [Int.tmod_eq_emod_of_nonneg (by omega)]; omega) | (rw [Int.tdiv_eq_ediv_of_nonneg (by omega)]; omega) | omega
            (try simp only [Act.put, List.setIfInBounds_toArray, List.set_cons_zero, List.set_cons_succ])
            refine wpAnyH_take (i := 8) (v := (.pointer (some ⟨r1, j * 2, none⟩))) rfl (by kernel_rfl) (by kernel_rfl) (by kernel_rfl) (fun _ _ _ h => h) (Or.inl ⟨by rfl, ?_⟩) (by assumption) ?_
            · intro w' hSw
              (try dsimp only at hSw)
              go_simp <;> first | exact i64_in (by omega) (by omega) | exact u32_in (by omega) (by omega) | exact u32_add _ _ | (rw [Int.tmod_eq_emod_of_nonneg (by omega)]; omega) | (rw [Int.tdiv_eq_ediv_of_nonneg (by omega)]; omega) | omega
            (try simp only [Act.put, List.setIfInBounds_toArray, List.set_cons_zero, List.set_cons_succ])
            refine wpAnyH_take (i := 9) (v := (.pointer (some ⟨r1, j * 2, none⟩))) rfl (by kernel_rfl) (by kernel_rfl) (by kernel_rfl) (fun _ _ _ h => h) (Or.inl ⟨by rfl, ?_⟩) (by assumption) ?_
            · intro w' hSw
              (try dsimp only at hSw)
              go_simp <;> first | exact i64_in (by omega) (by omega) | exact u32_in (by omega) (by omega) | exact u32_add _ _ | (rw [Int.tmod_eq_emod_of_nonneg (by omega)]; omega) | (rw [Int.tdiv_eq_ediv_of_nonneg (by omega)]; omega) | omega
            (try simp only [Act.put, List.setIfInBounds_toArray, List.set_cons_zero, List.set_cons_succ])
            refine wpAnyH_take (i := 10) (v := (.string K1)) rfl (by kernel_rfl) (by kernel_rfl) (by kernel_rfl) (fun _ _ _ h => h) (Or.inl ⟨by rfl, ?_⟩) (by assumption) ?_
            · intro w' hSw
              (try dsimp only at hSw)
              (obtain ⟨hS1, hS2, hS3⟩ := hSw; go_simp)
            (try simp only [Act.put, List.setIfInBounds_toArray, List.set_cons_zero, List.set_cons_succ])
            refine wpAnyH_take (i := 11) (v := (.int .i64 (K1.size : Int))) rfl (by kernel_rfl) (by kernel_rfl) (by kernel_rfl) (fun _ _ _ h => h) (Or.inl ⟨by rfl, ?_⟩) (by assumption) ?_
            · intro w' hSw
              (try dsimp only at hSw)
              go_simp <;> first | exact i64_in (by omega) (by omega) | exact u32_in (by omega) (by omega) | exact u32_add _ _ | (rw [Int.tmod_eq_emod_of_nonneg (by omega)]; omega) | (rw [Int.tdiv_eq_ediv_of_nonneg (by omega)]; omega) | omega
            (try simp only [Act.put, List.setIfInBounds_toArray, List.set_cons_zero, List.set_cons_succ])
            refine wpAnyH_take (i := 12) (v := (.int .i64 (A + 6 + (K1.size : Int)))) rfl (by kernel_rfl) (by kernel_rfl) (by kernel_rfl) (fun _ _ _ h => h) (Or.inl ⟨by rfl, ?_⟩) (by assumption) ?_
            · intro w' hSw
              (try dsimp only at hSw)
              go_simp <;> first | exact i64_in (by omega) (by omega) | exact u32_in (by omega) (by omega) | exact u32_add _ _ | (rw [Int.tmod_eq_emod_of_nonneg (by omega)]; omega) | (rw [Int.tdiv_eq_ediv_of_nonneg (by omega)]; omega) | omega
            (try simp only [Act.put, List.setIfInBounds_toArray, List.set_cons_zero, List.set_cons_succ])
            refine wpAnyH_take (i := 13) (v := (.slice (some ⟨g, 0, none⟩) gs.length cap)) rfl (by kernel_rfl) (by kernel_rfl) (by kernel_rfl) (fun _ _ _ h => h) (Or.inl ⟨by rfl, ?_⟩) (by assumption) ?_
            · intro w' hSw
              (try dsimp only at hSw)
              go_simp <;> first | exact i64_in (by omega) (by omega) | exact u32_in (by omega) (by omega) | exact u32_add _ _ | (rw [Int.tmod_eq_emod_of_nonneg (by omega)]; omega) | (rw [Int.tdiv_eq_ediv_of_nonneg (by omega)]; omega) | omega
            (try simp only [Act.put, List.setIfInBounds_toArray, List.set_cons_zero, List.set_cons_succ])
            refine wpAnyH_take (i := 14) (v := (.int .i64 (i : Int))) rfl (by kernel_rfl) (by kernel_rfl) (by kernel_rfl) (fun _ _ _ h => h) (Or.inl ⟨by rfl, ?_⟩) (by assumption) ?_
            · intro w' hSw
              (try dsimp only at hSw)
              go_simp <;> first | exact i64_in (by omega) (by omega) | exact u32_in (by omega) (by omega) | exact u32_add _ _ | (rw [Int.tmod_eq_emod_of_nonneg (by omega)]; omega) | (rw [Int.tdiv_eq_ediv_of_nonneg (by omega)]; omega) | omega
            (try simp only [Act.put, List.setIfInBounds_toArray, List.set_cons_zero, List.set_cons_succ])
            refine wpAnyH_take (i := 15) (v := (.pointer (some ⟨g, i * 2, none⟩))) rfl (by kernel_rfl) (by kernel_rfl) (by kernel_rfl) (fun _ _ _ h => h) (Or.inl ⟨by rfl, ?_⟩) (by assumption) ?_
            · intro w' hSw
              (try dsimp only at hSw)
              go_simp <;> first | exact i64_in (by omega) (by omega) | exact u32_in (by omega) (by omega) | exact u32_add _ _ | (rw [Int.tmod_eq_emod_of_nonneg (by omega)]; omega) | (rw [Int.tdiv_eq_ediv_of_nonneg (by omega)]; omega) | omega
            (try simp only [Act.put, List.setIfInBounds_toArray, List.set_cons_zero, List.set_cons_succ])
            refine wpAnyH_take (i := 16) (v := (.pointer (some ⟨g, i * 2 + 1, none⟩))) rfl (by kernel_rfl) (by kernel_rfl) (by kernel_rfl) (fun _ _ _ h => h) (Or.inl ⟨by rfl, ?_⟩) (by assumption) ?_
            · intro w' hSw
              (try dsimp only at hSw)
              go_simp <;> first | exact i64_in (by omega) (by omega) | exact u32_in (by omega) (by omega) | exact u32_add _ _ | (rw [Int.tmod_eq_emod_of_nonneg (by omega)]; omega) | (rw [Int.tdiv_eq_ediv_of_nonneg (by omega)]; omega) | omega
            (try simp only [Act.put, List.setIfInBounds_toArray, List.set_cons_zero, List.set_cons_succ])
            refine wpAnyH_take (i := 17) (v := (.slice (some ⟨r1, 0, none⟩) ps.length u1)) rfl (by kernel_rfl) (by kernel_rfl) (by kernel_rfl) (fun _ _ _ h => h) (Or.inl ⟨by rfl, ?_⟩) (by assumption) ?_
            · intro w' hSw
              (try dsimp only at hSw)
              (obtain ⟨hS1, hS2, hS3⟩ := hSw; go_simp)
            (try simp only [Act.put, List.setIfInBounds_toArray, List.set_cons_zero, List.set_cons_succ])
            refine wpAnyH_take (i := 18) (v := (.int .i64 (j : Int))) rfl (by kernel_rfl) (by kernel_rfl) (by kernel_rfl) (fun _ _ _ h => h) (Or.inl ⟨by rfl, ?_⟩) (by assumption) ?_
            · intro w' hSw
              (try dsimp only at hSw)
              go_simp <;> first | exact i64_in (by omega) (by omega) | exact u32_in (by omega) (by omega) | exact u32_add _ _ | (rw [Int.tmod_eq_emod_of_nonneg (by omega)]; omega) | (rw [Int.tdiv_eq_ediv_of_nonneg (by omega)]; omega) | omega
            (try simp only [Act.put, List.setIfInBounds_toArray, List.set_cons_zero, List.set_cons_succ])
            refine wpAnyH_take (i := 19) (v := (.pointer (some ⟨r1, j * 2, none⟩))) rfl (by kernel_rfl) (by kernel_rfl) (by kernel_rfl) (fun _ _ _ h => h) (Or.inl ⟨by rfl, ?_⟩) (by assumption) ?_
            · intro w' hSw
              (try dsimp only at hSw)
              go_simp <;> first | exact i64_in (by omega) (by omega) | exact u32_in (by omega) (by omega) | exact u32_add _ _ | (rw [Int.tmod_eq_emod_of_nonneg (by omega)]; omega) | (rw [Int.tdiv_eq_ediv_of_nonneg (by omega)]; omega) | omega
            (try simp only [Act.put, List.setIfInBounds_toArray, List.set_cons_zero, List.set_cons_succ])
            refine wpAnyH_take (i := 20) (v := (.pointer (some ⟨r1, j * 2 + 1, none⟩))) rfl (by kernel_rfl) (by kernel_rfl) (by kernel_rfl) (fun _ _ _ h => h) (Or.inl ⟨by rfl, ?_⟩) (by assumption) ?_
            · intro w' hSw
              (try dsimp only at hSw)
              go_simp <;> first | exact i64_in (by omega) (by omega) | exact u32_in (by omega) (by omega) | exact u32_add _ _ | (rw [Int.tmod_eq_emod_of_nonneg (by omega)]; omega) | (rw [Int.tdiv_eq_ediv_of_nonneg (by omega)]; omega) | omega
            (try simp only [Act.put, List.setIfInBounds_toArray, List.set_cons_zero, List.set_cons_succ])
            refine wpAnyH_take (i := 21) (v := (.string V1)) rfl (by kernel_rfl) (by kernel_rfl) (by kernel_rfl) (fun _ _ _ h => h) (Or.inl ⟨by rfl, ?_⟩) (by assumption) ?_
            · intro w' hSw
              (try dsimp only at hSw)
              (obtain ⟨hS1, hS2, hS3⟩ := hSw; go_simp)
            (try simp only [Act.put, List.setIfInBounds_toArray, List.set_cons_zero, List.set_cons_succ])
            refine wpAnyH_take (i := 22) (v := (.int .i64 (V1.size : Int))) rfl (by kernel_rfl) (by kernel_rfl) (by kernel_rfl) (fun _ _ _ h => h) (Or.inl ⟨by rfl, ?_⟩) (by assumption) ?_
            · intro w' hSw
              (try dsimp only at hSw)
              go_simp <;> first | exact i64_in (by omega) (by omega) | exact u32_in (by omega) (by omega) | exact u32_add _ _ | (rw [Int.tmod_eq_emod_of_nonneg (by omega)]; omega) | (rw [Int.tdiv_eq_ediv_of_nonneg (by omega)]; omega) | omega
            (try simp only [Act.put, List.setIfInBounds_toArray, List.set_cons_zero, List.set_cons_succ])
            refine wpAnyH_take (i := 23) (v := (.int .i64 (A + 6 + (K1.size : Int) + (V1.size : Int)))) rfl (by kernel_rfl) (by kernel_rfl) (by kernel_rfl) (fun _ _ _ h => h) (Or.inl ⟨by rfl, ?_⟩) (by assumption) ?_
            · intro w' hSw
              (try dsimp only at hSw)
              go_simp <;> first | exact i64_in (by omega) (by omega) | exact u32_in (by omega) (by omega) | exact u32_add _ _ | (rw [Int.tmod_eq_emod_of_nonneg (by omega)]; omega) | (rw [Int.tdiv_eq_ediv_of_nonneg (by omega)]; omega) | omega
            (try simp only [Act.put, List.setIfInBounds_toArray, List.set_cons_zero, List.set_cons_succ])
            refine wpAnyH_ready (rs := [24]) (by kernel_rfl) (by simp) ?_
            refine AllReadyH.cons rfl (fun K hK => ?_) AllReadyH.nil
            go_simp
            refine hK.out _ _ ⟨by first | exact e1 | simpa using e1, by first | exact y0 | simpa using y0, by first | exact y1 | simpa using y1⟩ (fun hHeld => ?_)
            clear hK
            (try simp only [Act.put, List.setIfInBounds_toArray, List.set_cons_zero, List.set_cons_succ])
            refine wpAnyH_done (by kernel_rfl) ?_ _
            go_wp2_with fail
            go_roundw
            case rel => exact ⟨j + 1, by omega, by go_num, by rw [RA.out, HS.out], by first | exact HN2.out.drew | exact HN2.out⟩
            case measure => simp [intOf]; omega
          · obtain rfl : j = ps.length := by omega
            have hji : ¬ ((ps.length : Int) < (ps.length : Int)) := by omega
            clear hnx2 c0 c1 hle
            rw [List.take_length] at *
            have R1 : Hid ((N + 2 + sizeL ps : Nat) = (encD (gs.take (i + 1))).length) := (show N + 2 + sizeL ps = N + (2 + sizeL ps) by omega).trans RE.out.1.symm
            have R2 : Hid (Fu = fullL (gs.take (i + 1))) := hmx.out.symm.trans RE.out.2.symm
            go_wp2_with fail
            go_roundw
            case rel => exact ⟨i + 1, by omega, by go_num, by rw [R1.out], by rw [← R2.out], HN2.out⟩
            case measure => simp [intOf]; omega
    · obtain rfl : i = gs.length := by omega
      have hii : ¬ (gs.length : Int) < (gs.length : Int) := by omega
      have HNX := hide hnx
      clear hnx
      rw [List.take_length] at *
      go_wp2_with fail
      go_ret2
      exact ⟨rfl, HNX.out⟩
end Go.Proofs.Ythihmgdefbahpaa
