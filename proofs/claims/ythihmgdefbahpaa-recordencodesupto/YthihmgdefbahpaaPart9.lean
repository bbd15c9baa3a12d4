import Derived.Test.YthihmgdefbahpaaPart8
import Derived.Test.YthihmgdefbahpaaPart7
namespace Go.Proofs.Ythihmgdefbahpaa
open Go.RowKit
theorem putP_append {a b : List KV} {p : KV} (h : ∀ x ∈ a, lessS x.1 p.1 = true) : putP (a ++ b) p = a ++ putP b p := by
  induction a with
  | nil => rfl
  | cons x r ih =>
    obtain ⟨u1, u2⟩ := lessS_asymm (h x List.mem_cons_self)
    rw [List.cons_append, putP, u1, if_neg (by simp), if_neg u2, ih (fun y hy => h y (List.mem_cons_of_mem _ hy)), List.cons_append]
/-- how far putPair is -/
def PInv (ps : List KV) (p : KV) (j : Nat) (m : List KV) (d : Bool) : Prop :=
  (d = false ∧ m = ps.take j ∧ ∀ x ∈ ps.take j, lessS x.1 p.1 = true) ∨ (d = true ∧ m ++ ps.drop j = putP ps p ∧ ∀ x ∈ ps.drop j, lessS p.1 x.1 = true)
theorem PInv.len {ps : List KV} {p : KV} {j : Nat} {m : List KV} {d : Bool} (h : PInv ps p j m d) : m.length ≤ ps.length + 1 := by
  rcases h with ⟨_, rfl, _⟩ | ⟨_, h, _⟩
  · rw [List.length_take]; omega
  · have := congrArg List.length h
    rw [List.length_append] at this
    have := putP_len ps p
    omega
theorem pinv_less {ps : List KV} {p : KV} {j : Nat} {m : List KV} (hu : UpP ps) (h : PInv ps p j m false) (hj : j < ps.length) (hl : lessS p.1 ps[j].1 = true) : PInv ps p (j + 1) (m ++ [p] ++ [ps[j]]) true := by
  rcases h with ⟨_, rfl, h3⟩ | ⟨h, _⟩
  · have hd := List.drop_eq_getElem_cons hj
    right
    refine ⟨rfl, ?_, fun x hx => ?_⟩
    · have e : putP ps p = ps.take j ++ putP (ps.drop j) p := by
        conv => lhs; rw [← List.take_append_drop j ps]
        exact putP_append h3
      rw [e, hd, putP, if_pos hl]
      simp
    · obtain ⟨t, ht, rfl⟩ := List.getElem_of_mem hx
      rw [List.length_drop] at ht
      rw [List.getElem_drop]
      exact lessS_trans hl (List.pairwise_iff_getElem.1 hu j (j + 1 + t) hj (by omega) (by omega))
  · cases h
theorem pinv_same {ps : List KV} {p : KV} {j : Nat} {m : List KV} (hu : UpP ps) (h : PInv ps p j m false) (hj : j < ps.length) (hl : p.1 = ps[j].1) : PInv ps p (j + 1) (m ++ [p]) true := by
  rcases h with ⟨_, rfl, h3⟩ | ⟨h, _⟩
  · have hd := List.drop_eq_getElem_cons hj
    right
    refine ⟨rfl, ?_, fun x hx => ?_⟩
    · have e : putP ps p = ps.take j ++ putP (ps.drop j) p := by
        conv => lhs; rw [← List.take_append_drop j ps]
        exact putP_append h3
      rw [e, hd, putP, hl, lessS_irrefl, if_neg (by simp), if_pos rfl]
      simp
    · obtain ⟨t, ht, rfl⟩ := List.getElem_of_mem hx
      rw [List.length_drop] at ht
      rw [List.getElem_drop, hl]
      exact List.pairwise_iff_getElem.1 hu j (j + 1 + t) hj (by omega) (by omega)
  · cases h
theorem pinv_more {ps : List KV} {p : KV} {j : Nat} {m : List KV} (h : PInv ps p j m false) (hj : j < ps.length) (hl : lessS ps[j].1 p.1 = true) : PInv ps p (j + 1) (m ++ [ps[j]]) false := by
  rcases h with ⟨_, rfl, h3⟩ | ⟨h, _⟩
  · left
    refine ⟨rfl, (List.take_succ_eq_append_getElem hj).symm, fun x hx => ?_⟩
    rw [List.take_succ_eq_append_getElem hj] at hx
    rcases List.mem_append.1 hx with hx | hx
    · exact h3 x hx
    · rw [List.mem_singleton] at hx; rw [hx]; exact hl
  · cases h
theorem pinv_done {ps : List KV} {p : KV} {j : Nat} {m : List KV} (h : PInv ps p j m true) (hj : j < ps.length) : PInv ps p (j + 1) (m ++ [ps[j]]) true ∧ lessS p.1 ps[j].1 = true := by
  rcases h with ⟨h, _⟩ | ⟨_, h2, h3⟩
  · cases h
  · have hd := List.drop_eq_getElem_cons hj
    refine ⟨.inr ⟨rfl, ?_, fun x hx => h3 x (by rw [hd]; exact List.mem_cons_of_mem _ hx)⟩, h3 _ (by rw [hd]; exact List.mem_cons_self)⟩
    rw [← h2, hd]; simp
theorem pinv_end {ps : List KV} {p : KV} {m : List KV} {d : Bool} (h : PInv ps p ps.length m d) : putP ps p = if d then m else m ++ [p] := by
  rcases h with ⟨rfl, rfl, h3⟩ | ⟨rfl, h2, _⟩
  · rw [if_neg (by simp), List.take_length] at *
    have := putP_append (b := []) h3
    rwa [List.append_nil] at this
  · rw [if_pos rfl, ← h2]; simp
theorem leqS (a b : ByteArray) : (Op.bytesLess a.toList b.toList || a.toList == b.toList) = (lessS a b || decide (a = b)) := by rw [eq_beq]; rfl
theorem app_below {B : Nat} {w0 w w' : World} {n : Nat} {o : Obj} {e sz ln : Nat} {v : Value} {xs : List Value} (h : Below B w0 w) (hs : B ≤ w.heap.size) (ho : w.ownsRow B e sz v ln xs) (g : ((w.drewN n).alloc o).grownBy w' v.ownBlock) : Below B w0 w' :=
  ((below_drewN h n).alloc hs _).grown g (le_alloc hs) (fun t ht => (ho.lt t ht).1)
theorem own_drewN {B : Nat} {w : World} {n e sz ln : Nat} {v : Value} {xs : List Value} (ho : w.ownsRow B e sz v ln xs) (o : Obj) : ((w.drewN n).alloc o).ownsRow B e sz v ln xs :=
  (own_below ho (below_drewN (Below.refl _ w) n)).alloc o
theorem le_drewN {B : Nat} {w : World} {n : Nat} {o : Obj} (h : B ≤ w.heap.size) : B ≤ ((w.drewN n).alloc o).heap.size := le_alloc (w := w.drewN n) h
theorem own_snoc {w : World} {base : Nat} {v : Value} {m : List KV} {q : KV} (h : w.ownsRow base 65 2 v (m.length + 1) (pc m ++ pc [q])) : w.ownsRow base 65 2 v (m ++ [q]).length (pc (m ++ [q])) := by
  rw [pc_append, List.length_append]; exact h
set_option maxHeartbeats 1000000 in
set_option maxRecDepth 100000 in
set_option linter.unusedSimpArgs false in
/-- putPair -/
theorem putPair_any (s : SQ) (ps : List KV) (p : KV) (w : World) (hs : PLies w s ps) (hu : UpP ps) (hlen : ps.length ≤ 65536) :
    Calls Try.prog 68 #[.slice s.1 s.2.1 s.2.2, .agg #[.string p.1, .string p.2]] w fun e w' => ∃ v, e = .returned v ∧ w'.ownsRow w.heap.size 65 2 v (putP ps p).length (pc (putP ps p)) ∧ Below w.heap.size w w' := by
  obtain ⟨i0, hi, hz0, hz1, hz2⟩ := info_parts infoP
  obtain ⟨sa, sn, sc⟩ := s
  obtain ⟨b, off, h1, h2, h3, h4⟩ := hs
  simp only at h1 h2 ⊢
  subst h1
  have HL := hide h4
  have HU := hide hu
  obtain ⟨W0, hW0⟩ : ∃ W0, W0 = w.alloc (.cells #[.string p.1, .string p.2] 65) := ⟨_, rfl⟩
  have s0 : W0.heap.size = w.heap.size + 1 := by rw [hW0]; simp
  have b0 : Below w.heap.size w W0 := by rw [hW0]; exact (Below.refl _ w).alloc (Nat.le_refl _) _
  have CC : Hid (∀ w', Below W0.heap.size W0 w' → w'.cell? ⟨w.heap.size, 0, none⟩ = some (.string p.1) ∧ w'.cell? ⟨w.heap.size, 1, none⟩ = some (.string p.2)) := fun w' hb => by
    rw [hb.cell (by rw [s0]; exact Nat.lt_succ_self _), hb.cell (by rw [s0]; exact Nat.lt_succ_self _), hW0]
    exact ⟨by simp, by simp⟩
  have HB0 := hide b0
  have S0 := hide s0
  clear b0 h4 hu s0
  go_enter Try.func68, Try.ntmps68
  go_wp2_with fail
  rw [← hW0]
  go_loopw [5, 6, 7] (fun v d i wr => ∃ (j : Nat) (m : List KV) (db : Bool), j ≤ ps.length ∧ i = .int .i64 (j : Int) ∧ d = .bool db ∧ PInv ps p j m db ∧ wr.ownsRow W0.heap.size 65 2 v m.length (pc m) ∧ Below W0.heap.size W0 wr)
    (fun _ _ i _ => ps.length - (intOf i).toNat)
  case atStart => exact ⟨0, [], false, Nat.zero_le _, rfl, rfl, .inl ⟨rfl, rfl, fun x hx => by cases hx⟩, World.ownsRow_nil _ _ _ _, Below.refl _ _⟩
  case round =>
    obtain ⟨j, m, db, hj, rfl, rfl, hinv, hown, hnx⟩ := hrel
    have hml := hinv.len
    obtain ⟨hm1, hm2⟩ : m.length + 1 ≤ maxLen ∧ (m.length + 1) * 32 ≤ 140737488355328 := by unfold maxLen; omega
    obtain ⟨hm3, hm4⟩ : m.length + 1 + 1 ≤ maxLen ∧ (m.length + 1 + 1) * 32 ≤ 140737488355328 := by unfold maxLen; omega
    have hsz := hnx.size
    obtain ⟨cc0, cc1⟩ := CC.out wr hnx
    have HINV := hide hinv
    have HOWN := hide hown
    have HNX := hide hnx
    have bw : Below w.heap.size w wr := HB0.out.trans (hnx.mono (by rw [S0.out]; exact Nat.le_succ _))
    clear hinv hown hml
    by_cases hlt : j < ps.length
    · have x0 := h2 (by omega)
      have x1 := h3 (by omega)
      subst x0
      obtain ⟨g0, g1⟩ := HL.out.below x1 bw j hlt
      have hji : (j : Int) < (ps.length : Int) := by omega
      have LQ := hide (fun w' (hb : Below W0.heap.size W0 w') => HL.out.below x1 (HB0.out.trans (hb.mono (by rw [S0.out]; exact Nat.le_succ _))) j hlt)
      have PL := hide (fun h q => pinv_less (j := j) (m := m) (p := p) HU.out h hlt q)
      have PS := hide (fun h q => pinv_same (j := j) (m := m) (p := p) HU.out h hlt q)
      have PM := hide (fun h q => pinv_more (j := j) (m := m) (p := p) h hlt q)
      have PD := hide (fun h => pinv_done (j := j) (m := m) (p := p) h hlt)
      clear hnx bw
      generalize ps[j] = Q at *
      cases db with
      | true =>
        obtain ⟨PI, hlq⟩ := PD.out HINV.out
        have HPI := hide PI
        obtain ⟨u1, u2⟩ := lessS_asymm hlq
        have hne : (Q.1.toList == p.1.toList) = false := by rw [eq_beq]; exact decide_eq_false u2
        have hne2 : (Q.1.toList != p.1.toList) = true := by rw [bne, hne]; rfl
        clear PL PS PM PD PI hlq u1 u2
        go_wp2_with fail
        go_quiet (fail)
        go_wp2_with fail
        go_quiet (fail)
        go_wp2_with ((at_builtin; refine wpList_append_own _ rfl _ _ 47 rfl W0.heap.size 65 i0 (.agg #[.string ⟨#[]⟩, .string ⟨#[]⟩]) 2 32 Try.underlying47 hi hz0 hz1 hz2 rfl (by decide) _ _ _ rfl (own_drewN HOWN.out _) ⟨_, 0, none⟩ 1 1 (pc [Q]) rfl (pc_one_len Q) (cell_pair _ Q) (pc_one _) hm1 hm2 (le_drewN hsz) ?_; intro v2 w2 o2 g2 n2; clear n2); have N2 := hide (app_below HNX.out hsz HOWN.out g2); have O2 := hide (own_snoc o2); have s2 : W0.heap.size ≤ w2.heap.size := N2.out.size; clear o2 g2)
        go_roundw
        case rel => exact ⟨j + 1, _, true, by omega, by go_num, rfl, HPI.out, O2.out, N2.out⟩
        case measure => simp [intOf]; omega
      | false =>
        by_cases hl : lessS p.1 Q.1 = true
        · have PI := hide (PL.out HINV.out hl)
          obtain ⟨u1, u2⟩ := lessS_asymm hl
          have hne : (Q.1.toList == p.1.toList) = false := by rw [eq_beq]; exact decide_eq_false u2
          have hne2 : (Q.1.toList != p.1.toList) = true := by rw [bne, hne]; rfl
          have hle : Op.bytesLess p.1.toList Q.1.toList = true := hl
          clear PL PS PM PD hl u1 u2
          go_wp2_with fail
          go_quiet (fail)
          go_wp2_with ((at_builtin; refine wpList_append_own _ rfl _ _ 47 rfl W0.heap.size 65 i0 (.agg #[.string ⟨#[]⟩, .string ⟨#[]⟩]) 2 32 Try.underlying47 hi hz0 hz1 hz2 rfl (by decide) _ _ _ rfl (own_drewN HOWN.out _) ⟨_, 0, none⟩ 1 1 (pc [p]) rfl (pc_one_len p) (cell_pair _ p) (pc_one _) hm1 hm2 (le_drewN hsz) ?_; intro v2 w2 o2 g2 n2; clear n2); have N2 := hide (app_below HNX.out hsz HOWN.out g2); have O2 := hide (own_snoc o2); have s2 : W0.heap.size ≤ w2.heap.size := N2.out.size; clear o2 g2; obtain ⟨q0, q1⟩ := LQ.out w2 N2.out; obtain ⟨cd0, cd1⟩ := CC.out w2 N2.out)
          have hm5 : (m ++ [p]).length + 1 ≤ maxLen ∧ ((m ++ [p]).length + 1) * 32 ≤ 140737488355328 := by rw [List.length_append]; exact ⟨hm3, hm4⟩
          obtain ⟨hm6, hm7⟩ := hm5
          clear g0 g1 cc0 cc1
          go_quiet (fail)
          go_wp2_with ((at_builtin; refine wpList_append_own _ rfl _ _ 47 rfl W0.heap.size 65 i0 (.agg #[.string ⟨#[]⟩, .string ⟨#[]⟩]) 2 32 Try.underlying47 hi hz0 hz1 hz2 rfl (by decide) _ _ _ rfl (own_drewN O2.out _) ⟨_, 0, none⟩ 1 1 (pc [Q]) rfl (pc_one_len Q) (cell_pair _ Q) (pc_one _) hm6 hm7 (le_drewN s2) ?_; intro v3 w3 o3 g3 n3; clear n3); have N3 := hide (app_below N2.out s2 O2.out g3); have O3 := hide (own_snoc o3); have s3 : W0.heap.size ≤ w3.heap.size := N3.out.size; clear o3 g3)
          go_roundw
          case rel => exact ⟨j + 1, _, true, by omega, by go_num, rfl, PI.out, O3.out, N3.out⟩
          case measure => simp [intOf]; omega
        · simp only [Bool.not_eq_true] at hl
          have hle : Op.bytesLess p.1.toList Q.1.toList = false := hl
          by_cases he : p.1 = Q.1
          · have PI := hide (PS.out HINV.out he)
            have hne : (Q.1.toList == p.1.toList) = true := by rw [eq_beq]; exact decide_eq_true he.symm
            have hne2 : (Q.1.toList != p.1.toList) = false := by rw [bne, hne]; rfl
            have hne3 : (p.1.toList == Q.1.toList) = true := by rw [eq_beq]; exact decide_eq_true he
            clear PL PS PM PD hl he
            go_wp2_with fail
            go_quiet (fail)
            go_wp2_with ((at_builtin; refine wpList_append_own _ rfl _ _ 47 rfl W0.heap.size 65 i0 (.agg #[.string ⟨#[]⟩, .string ⟨#[]⟩]) 2 32 Try.underlying47 hi hz0 hz1 hz2 rfl (by decide) _ _ _ rfl (own_drewN HOWN.out _) ⟨_, 0, none⟩ 1 1 (pc [p]) rfl (pc_one_len p) (cell_pair _ p) (pc_one _) hm1 hm2 (le_drewN hsz) ?_; intro v2 w2 o2 g2 n2; clear n2); have N2 := hide (app_below HNX.out hsz HOWN.out g2); have O2 := hide (own_snoc o2); have s2 : W0.heap.size ≤ w2.heap.size := N2.out.size; clear o2 g2; obtain ⟨q0, q1⟩ := LQ.out w2 N2.out; obtain ⟨cd0, cd1⟩ := CC.out w2 N2.out)
            clear g0 g1 cc0 cc1
            go_quiet (fail)
            go_wp2_with fail
            go_roundw
            case rel => exact ⟨j + 1, _, true, by omega, by go_num, rfl, PI.out, own_below O2.out (below_drewN (Below.refl _ _) _), below_drewN N2.out _⟩
            case measure => simp [intOf]; omega
          · have PI := hide (PM.out HINV.out (lessS_no hl he))
            have hne : (Q.1.toList == p.1.toList) = false := by rw [eq_beq]; exact decide_eq_false (fun e => he e.symm)
            have hne2 : (Q.1.toList != p.1.toList) = true := by rw [bne, hne]; rfl
            have hne3 : (p.1.toList == Q.1.toList) = false := by rw [eq_beq]; exact decide_eq_false he
            clear PL PS PM PD hl he
            go_wp2_with fail
            go_quiet (fail)
            go_wp2_with fail
            go_quiet (fail)
            go_wp2_with ((at_builtin; refine wpList_append_own _ rfl _ _ 47 rfl W0.heap.size 65 i0 (.agg #[.string ⟨#[]⟩, .string ⟨#[]⟩]) 2 32 Try.underlying47 hi hz0 hz1 hz2 rfl (by decide) _ _ _ rfl (own_drewN HOWN.out _) ⟨_, 0, none⟩ 1 1 (pc [Q]) rfl (pc_one_len Q) (cell_pair _ Q) (pc_one _) hm1 hm2 (le_drewN hsz) ?_; intro v2 w2 o2 g2 n2; clear n2); have N2 := hide (app_below HNX.out hsz HOWN.out g2); have O2 := hide (own_snoc o2); have s2 : W0.heap.size ≤ w2.heap.size := N2.out.size; clear o2 g2)
            go_roundw
            case rel => exact ⟨j + 1, _, false, by omega, by go_num, rfl, PI.out, O2.out, N2.out⟩
            case measure => simp [intOf]; omega
    · obtain rfl : j = ps.length := by omega
      clear hnx bw
      have hji : ¬ ((ps.length : Int) < (ps.length : Int)) := by omega
      cases db with
      | true =>
        have HEND : Hid (putP ps p = m) := (pinv_end HINV.out).trans (if_pos rfl)
        go_wp2_with fail
        go_ret
        exact ⟨_, rfl, by rw [HEND.out]; exact own_base HOWN.out (by rw [S0.out]; exact Nat.le_succ _), HB0.out.trans (HNX.out.mono (by rw [S0.out]; exact Nat.le_succ _))⟩
      | false =>
        have HEND : Hid (putP ps p = m ++ [p]) := (pinv_end HINV.out).trans (if_neg (by simp))
        go_wp2_with (at_builtin; refine wpList_append_own _ rfl _ _ 47 rfl W0.heap.size 65 i0 (.agg #[.string ⟨#[]⟩, .string ⟨#[]⟩]) 2 32 Try.underlying47 hi hz0 hz1 hz2 rfl (by decide) _ _ _ rfl (HOWN.out.alloc _) ⟨_, 0, none⟩ 1 1 (pc [p]) rfl (pc_one_len p) (cell_pair _ p) (pc_one _) hm1 hm2 (le_alloc hsz) ?_; intro v2 w2 o2 g2 n2; clear n2; have N2 := hide (app_below (n := 0) HNX.out hsz HOWN.out g2); have O2 := hide (own_snoc o2); clear o2 g2)
        go_ret
        exact ⟨_, rfl, by rw [HEND.out]; exact own_base O2.out (by rw [S0.out]; exact Nat.le_succ _), HB0.out.trans (N2.out.mono (by rw [S0.out]; exact Nat.le_succ _))⟩
end Go.Proofs.Ythihmgdefbahpaa
namespace Go.Proofs.Ythihmgdefbahpaa
open Go.RowKit
theorem putG_append {a b : List GR} {h : ByteArray} {p : KV} (hl : ∀ x ∈ a, lessS x.1 h = true) : putG (a ++ b) h p = a ++ putG b h p := by
  induction a with
  | nil => rfl
  | cons x r ih =>
    obtain ⟨u1, u2⟩ := lessS_asymm (hl x List.mem_cons_self)
    rw [List.cons_append, putG, u1, if_neg (by simp), if_neg u2, ih (fun y hy => hl y (List.mem_cons_of_mem _ hy)), List.cons_append]
theorem putG_len (l : List GR) (h : ByteArray) (p : KV) : (putG l h p).length ≤ l.length + 1 := by
  induction l with
  | nil => simp [putG]
  | cons a r ih =>
    unfold putG
    split
    · simp
    · split
      · simp
      · simp only [List.length_cons]; omega
/-- how far putGroup is -/
def GInv (ps : List GR) (h : ByteArray) (p : KV) (j : Nat) (m : List GR) (d : Bool) : Prop :=
  (d = false ∧ m = ps.take j ∧ ∀ x ∈ ps.take j, lessS x.1 h = true) ∨ (d = true ∧ m ++ ps.drop j = putG ps h p ∧ ∀ x ∈ ps.drop j, lessS h x.1 = true)
theorem GInv.len {ps : List GR} {h : ByteArray} {p : KV} {j : Nat} {m : List GR} {d : Bool} (hv : GInv ps h p j m d) : m.length ≤ ps.length + 1 := by
  rcases hv with ⟨_, rfl, _⟩ | ⟨_, h, _⟩
  · rw [List.length_take]; omega
  · have := congrArg List.length h
    rw [List.length_append] at this
    have := putG_len ps ‹_› p
    omega
theorem ginv_less {ps : List GR} {h : ByteArray} {p : KV} {j : Nat} {m : List GR} (hu : UpG ps) (hv : GInv ps h p j m false) (hj : j < ps.length) (hl : lessS h ps[j].1 = true) : GInv ps h p (j + 1) (m ++ [(h, [p])] ++ [ps[j]]) true := by
  rcases hv with ⟨_, rfl, h3⟩ | ⟨hv, _⟩
  · have hd := List.drop_eq_getElem_cons hj
    right
    refine ⟨rfl, ?_, fun x hx => ?_⟩
    · have e : putG ps h p = ps.take j ++ putG (ps.drop j) h p := by
        conv => lhs; rw [← List.take_append_drop j ps]
        exact putG_append h3
      rw [e, hd, putG, if_pos hl]
      simp
    · obtain ⟨t, ht, rfl⟩ := List.getElem_of_mem hx
      rw [List.length_drop] at ht
      rw [List.getElem_drop]
      exact lessS_trans hl (List.pairwise_iff_getElem.1 hu j (j + 1 + t) hj (by omega) (by omega))
  · cases hv
theorem ginv_same {ps : List GR} {h : ByteArray} {p : KV} {j : Nat} {m : List GR} (hu : UpG ps) (hv : GInv ps h p j m false) (hj : j < ps.length) (hl : h = ps[j].1) : GInv ps h p (j + 1) (m ++ [(h, putP ps[j].2 p)]) true := by
  rcases hv with ⟨_, rfl, h3⟩ | ⟨hv, _⟩
  · have hd := List.drop_eq_getElem_cons hj
    right
    refine ⟨rfl, ?_, fun x hx => ?_⟩
    · have e : putG ps h p = ps.take j ++ putG (ps.drop j) h p := by
        conv => lhs; rw [← List.take_append_drop j ps]
        exact putG_append h3
      rw [e, hd, putG, hl, lessS_irrefl, if_neg (by simp), if_pos rfl]
      simp
    · obtain ⟨t, ht, rfl⟩ := List.getElem_of_mem hx
      rw [List.length_drop] at ht
      rw [List.getElem_drop, hl]
      exact List.pairwise_iff_getElem.1 hu j (j + 1 + t) hj (by omega) (by omega)
  · cases hv
theorem ginv_more {ps : List GR} {h : ByteArray} {p : KV} {j : Nat} {m : List GR} (hv : GInv ps h p j m false) (hj : j < ps.length) (hl : lessS ps[j].1 h = true) : GInv ps h p (j + 1) (m ++ [ps[j]]) false := by
  rcases hv with ⟨_, rfl, h3⟩ | ⟨hv, _⟩
  · left
    refine ⟨rfl, (List.take_succ_eq_append_getElem hj).symm, fun x hx => ?_⟩
    rw [List.take_succ_eq_append_getElem hj] at hx
    rcases List.mem_append.1 hx with hx | hx
    · exact h3 x hx
    · rw [List.mem_singleton] at hx; rw [hx]; exact hl
  · cases hv
theorem ginv_done {ps : List GR} {h : ByteArray} {p : KV} {j : Nat} {m : List GR} (hv : GInv ps h p j m true) (hj : j < ps.length) : GInv ps h p (j + 1) (m ++ [ps[j]]) true ∧ lessS h ps[j].1 = true := by
  rcases hv with ⟨hv, _⟩ | ⟨_, h2, h3⟩
  · cases hv
  · have hd := List.drop_eq_getElem_cons hj
    refine ⟨.inr ⟨rfl, ?_, fun x hx => h3 x (by rw [hd]; exact List.mem_cons_of_mem _ hx)⟩, h3 _ (by rw [hd]; exact List.mem_cons_self)⟩
    rw [← h2, hd]; simp
theorem ginv_end {ps : List GR} {h : ByteArray} {p : KV} {m : List GR} {d : Bool} (hv : GInv ps h p ps.length m d) : putG ps h p = if d then m else m ++ [(h, [p])] := by
  rcases hv with ⟨rfl, rfl, h3⟩ | ⟨rfl, h2, _⟩
  · rw [if_neg (by simp), List.take_length] at *
    have := putG_append (b := []) (p := p) h3
    rwa [List.append_nil] at this
  · rw [if_pos rfl, ← h2]; simp
/-- groups in memory, the list's block and the pairs' blocks apart -/
def GA (w : World) (bl bp : Nat) (v : Value) (gs : List GR) : Prop := ∃ ts : List (GR × Value), ts.map Prod.fst = gs ∧ w.ownsRow bl 49 2 v ts.length (gcell ts) ∧ ∀ t ∈ ts, w.ownsRow bp 65 2 t.2 t.1.2.length (pc t.1.2)
theorem GA.groups {w : World} {bl bp b : Nat} {v : Value} {gs : List GR} (h : GA w bl bp v gs) (h1 : b ≤ bl) (h2 : b ≤ bp) : GroupsAt w b v gs := by
  obtain ⟨ts, e, r, q⟩ := h
  exact ⟨ts, e, own_base r h1, fun t ht => own_base (q t ht) h2⟩
theorem GA.nil (w : World) (bl bp : Nat) : GA w bl bp (.slice none 0 0) [] := ⟨[], rfl, World.ownsRow_nil _ _ _ _, fun t ht => by cases ht⟩
theorem GA.below {w w' : World} {bl bp : Nat} {v : Value} {gs : List GR} (h : GA w bl bp v gs) (hb : Below w.heap.size w w') : GA w' bl bp v gs := by
  obtain ⟨ts, h1, h2, h3⟩ := h
  exact ⟨ts, h1, own_below h2 hb, fun t ht => own_below (h3 t ht) hb⟩
/-- one more group -/
theorem GA.snoc {w W w' : World} {bl bp : Nat} {v v' : Value} {ts : List (GR × Value)} {X : ByteArray} {L : List KV} {pv : Value} (hr : w.ownsRow bl 49 2 v ts.length (gcell ts)) (hq : ∀ t ∈ ts, w.ownsRow bp 65 2 t.2 t.1.2.length (pc t.1.2)) (hp : w.ownsRow bp 65 2 pv L.length (pc L))
    (hW : Below w.heap.size w W) (g : W.grownBy w' v.ownBlock) (o : w'.ownsRow bl 49 2 v' (ts.length + 1) (gcell ts ++ gcell [((X, L), pv)])) : GA w' bl bp v' (ts.map Prod.fst ++ [(X, L)]) := by
  refine ⟨ts ++ [((X, L), pv)], by rw [List.map_append]; rfl, by rw [gcell_append, List.length_append]; exact o, fun t ht => ?_⟩
  rcases List.mem_append.1 ht with ht | ht
  · exact row_type (own_below (hq t ht) hW) (own_below hr hW) (by decide) g
  · obtain rfl : t = ((X, L), pv) := by simpa using ht
    exact row_type (own_below hp hW) (own_below hr hW) (by decide) g
end Go.Proofs.Ythihmgdefbahpaa
namespace Go.Proofs.Ythihmgdefbahpaa
open Go.RowKit
theorem GA.split {w : World} {bl bp : Nat} {v : Value} {gs : List GR} (h : GA w bl bp v gs) : ∃ ao g cap, v = .slice ao gs.length cap ∧ (0 < gs.length → ao = some ⟨g, 0, none⟩) ∧ (0 < gs.length → g < w.heap.size) ∧
    ∀ i (hi : i < gs.length), ∃ s : SQ, w.cell? ⟨g, i * 2, none⟩ = some (.string gs[i].1) ∧ w.cell? ⟨g, i * 2 + 1, none⟩ = some (.slice s.1 gs[i].2.length s.2.2) ∧ s.2.1 = gs[i].2.length ∧ w.ownsRow bp 65 2 (.slice s.1 gs[i].2.length s.2.2) gs[i].2.length (pc gs[i].2) := by
  obtain ⟨ts, rfl, h2, h3⟩ := h
  simp only [List.length_map]
  rcases h2.2 with ⟨rfl, h0⟩ | ⟨g, cap, cur, rfl, hg, hblk, _⟩
  · obtain rfl := List.length_eq_zero_iff.1 h0
    exact ⟨none, 0, 0, rfl, fun k => by simp at k, fun k => by simp at k, fun i hi => by simp at hi⟩
  · refine ⟨some ⟨g, 0, none⟩, g, cap, rfl, fun _ => rfl, fun _ => row_lt h2, fun i hi => ?_⟩
    have hr := h3 _ (List.getElem_mem hi)
    obtain ⟨a, c, e⟩ := own_shape hr
    rw [List.getElem_map]
    refine ⟨(a, ts[i].1.2.length, c), ?_, ?_, rfl, ?_⟩
    · rw [h2.cellAt (i * 2) (by omega), (gcell_at ts i hi).1]
    · rw [h2.cellAt (i * 2 + 1) (by omega), (gcell_at ts i hi).2, e]
    · simp only; rw [← e]; exact hr
theorem cell_grp2 (w : World) (o : Obj) (X : ByteArray) (L : List KV) (v : Value) : ∀ j u, (gcell [((X, L), v)])[j]? = some u → ((w.alloc o).alloc (.cells #[.string X, v] 49)).cell? ((⟨w.heap.size + 1, 0, none⟩ : Addr).add j) = some u := by
  have := cell_grp (w.alloc o) X L v
  rwa [show (w.alloc o).heap.size = w.heap.size + 1 by simp] at this
theorem lit_pair {w : World} {bp : Nat} (p : KV) (hb : bp ≤ w.heap.size) : (w.alloc (.cells #[.string p.1, .string p.2] 65)).ownsRow bp 65 2 (.slice (some ⟨w.heap.size, 0, none⟩) 1 1) [p].length (pc [p]) := by
  have := World.ownsRow_lit (base := bp) (e := 65) (size := 2) w #[.string p.1, .string p.2] 1 hb (by unfold maxLen; omega) rfl
  rw [pc_two]
  exact this
set_option maxHeartbeats 2000000 in
set_option maxRecDepth 100000 in
set_option linter.unusedSimpArgs false in
/-- putGroup -/
theorem putGroup_any (v : Value) (bl bp : Nat) (gs : List GR) (h : ByteArray) (p : KV) (w : World) (hg : GA w bl bp v gs) (hbp : bp ≤ w.heap.size) (hu : UpG gs) (hup : ∀ g ∈ gs, UpP g.2) (hlen : gs.length ≤ 65536) (hps : ∀ g ∈ gs, g.2.length ≤ 65536) :
    Calls Try.prog 47 #[v, .string h, .agg #[.string p.1, .string p.2]] w fun e w' => ∃ v', e = .returned v' ∧ GA w' w.heap.size bp v' (putG gs h p) ∧ Below w.heap.size w w' := by
  obtain ⟨i0, hi, hz0, hz1, hz2⟩ := info_parts infoG
  obtain ⟨i1, hj, hy0, hy1, hy2⟩ := info_parts infoP
  obtain ⟨av, g, cv, rfl, hav, hgl, hcell⟩ := hg.split
  have HC := hide hcell
  have HU := hide hu
  have HUP := hide hup
  have HPS := hide hps
  clear hcell hg hu hup hps
  obtain ⟨W0, hW0⟩ : ∃ W0, W0 = w.alloc (.cells #[.string p.1, .string p.2] 65) := ⟨_, rfl⟩
  have s0 : W0.heap.size = w.heap.size + 1 := by rw [hW0]; simp
  have b0 : Below w.heap.size w W0 := by rw [hW0]; exact (Below.refl _ w).alloc (Nat.le_refl _) _
  have CC : Hid (∀ w', Below W0.heap.size W0 w' → w'.cell? ⟨w.heap.size, 0, none⟩ = some (.string p.1) ∧ w'.cell? ⟨w.heap.size, 1, none⟩ = some (.string p.2)) := fun w' hb => by
    rw [hb.cell (by rw [s0]; exact Nat.lt_succ_self _), hb.cell (by rw [s0]; exact Nat.lt_succ_self _), hW0]
    exact ⟨by simp, by simp⟩
  have HB0 := hide b0
  have S0 := hide s0
  clear b0 s0
  go_enter Try.func47, Try.ntmps47
  go_wp2_with fail
  rw [← hW0]
  go_loopw [7, 8, 9] (fun v d i wr => ∃ (j : Nat) (m : List GR) (db : Bool), j ≤ gs.length ∧ i = .int .i64 (j : Int) ∧ d = .bool db ∧ GInv gs h p j m db ∧ GA wr W0.heap.size bp v m ∧ Below W0.heap.size W0 wr)
    (fun _ _ i _ => gs.length - (intOf i).toNat)
  case atStart => exact ⟨0, [], false, Nat.zero_le _, rfl, rfl, .inl ⟨rfl, rfl, fun x hx => by cases hx⟩, GA.nil _ _ _, Below.refl _ _⟩
  case round =>
    obtain ⟨j, m, db, hj9, rfl, rfl, hinv, hga, hnx⟩ := hrel
    have hml := hinv.len
    obtain ⟨hm1, hm2⟩ : m.length + 1 ≤ maxLen ∧ (m.length + 1) * 40 ≤ 140737488355328 := by unfold maxLen; omega
    obtain ⟨hm3, hm4⟩ : m.length + 1 + 1 ≤ maxLen ∧ (m.length + 1 + 1) * 40 ≤ 140737488355328 := by unfold maxLen; omega
    have hsz := hnx.size
    have hbpr : bp ≤ wr.heap.size := Nat.le_trans hbp (Nat.le_trans (by rw [S0.out]; exact Nat.le_succ _) hsz)
    obtain ⟨cc0, cc1⟩ := CC.out wr hnx
    have HINV := hide hinv
    have HNX := hide hnx
    obtain ⟨ms, hms, hown, hrows⟩ := hga
    subst hms
    rw [List.length_map] at hm1 hm2 hm3 hm4
    have HOWN := hide hown
    have HROWS := hide hrows
    have WB := hide (fun w' (hb : Below W0.heap.size W0 w') => HB0.out.trans (hb.mono (by rw [S0.out]; exact Nat.le_succ _)))
    clear hinv hown hml hrows
    by_cases hlt : j < gs.length
    · have x0 := hav (by omega)
      have x1 := hgl (by omega)
      subst x0
      obtain ⟨sq, d0, d1, d2, d3⟩ := HC.out j hlt
      have hji : (j : Int) < (gs.length : Int) := by omega
      have HD := hide (fun w' (hb : Below W0.heap.size W0 w') => (⟨by rw [(WB.out w' hb).cell (by exact x1)]; exact d0, by rw [(WB.out w' hb).cell (by exact x1)]; exact d1, own_below d3 (WB.out w' hb)⟩ : w'.cell? ⟨g, j * 2, none⟩ = some (.string gs[j].1) ∧ w'.cell? ⟨g, j * 2 + 1, none⟩ = some (.slice sq.1 gs[j].2.length sq.2.2) ∧ w'.ownsRow bp 65 2 (.slice sq.1 gs[j].2.length sq.2.2) gs[j].2.length (pc gs[j].2)))
      have PL := hide (fun a q => ginv_less (j := j) (m := ms.map Prod.fst) (h := h) (p := p) HU.out a hlt q)
      have PS := hide (fun a q => ginv_same (j := j) (m := ms.map Prod.fst) (h := h) (p := p) HU.out a hlt q)
      have PM := hide (fun a q => ginv_more (j := j) (m := ms.map Prod.fst) (h := h) (p := p) a hlt q)
      have PD := hide (fun a => ginv_done (j := j) (m := ms.map Prod.fst) (h := h) (p := p) a hlt)
      have PP := hide (fun w' (hq : PLies w' (sq.1, (gs[j]'hlt).2.length, sq.2.2) (gs[j]'hlt).2) => putPair_any (sq.1, gs[j].2.length, sq.2.2) gs[j].2 p w' hq (HUP.out _ (List.getElem_mem hlt)) (HPS.out _ (List.getElem_mem hlt)))
      have hQe : gs[j] = (gs[j].1, gs[j].2) := rfl
      rw [hQe] at PL PM PD
      clear hnx d0 d1 d2 d3 hQe
      generalize gs[j].1 = QH at *
      generalize gs[j].2 = QL at *
      obtain ⟨g0, g1, g2⟩ := HD.out wr HNX.out
      have G2 := hide g2
      clear g2
      cases db with
      | true =>
        obtain ⟨PI, hlq⟩ := PD.out HINV.out
        have HPI := hide PI
        obtain ⟨u1, u2⟩ := lessS_asymm hlq
        have hne : (QH.toList == h.toList) = false := by rw [eq_beq]; exact decide_eq_false u2
        have hne2 : (QH.toList != h.toList) = true := by rw [bne, hne]; rfl
        clear PL PS PM PD PI hlq u1 u2
        go_wp2_with (at_builtin; refine wpList_append_own _ rfl _ _ 31 rfl W0.heap.size 49 i0 (.agg #[.string ⟨#[]⟩, .slice none 0 0]) 2 40 Try.underlying31 hi hz0 hz1 hz2 rfl (by decide) _ _ _ rfl (HOWN.out.alloc _) ⟨_, 0, none⟩ 1 1 (gcell [((QH, QL), .slice sq.1 QL.length sq.2.2)]) rfl (g_one_len _ _ _) (cell_grp _ QH QL (.slice sq.1 QL.length sq.2.2)) (g_one _ _ _ rfl) hm1 hm2 (le_alloc hsz) ?_; intro v2 w2 o2 g2 n2; clear n2; have N2 := hide (app_below (n := 0) HNX.out hsz HOWN.out g2); have GA2 := hide (GA.snoc (X := QH) (L := QL) HOWN.out HROWS.out G2.out ((Below.refl _ wr).alloc (Nat.le_refl _) _) g2 o2); clear o2 g2)
        go_roundw
        case rel => exact ⟨j + 1, _, true, by omega, by go_num, rfl, HPI.out, GA2.out, N2.out⟩
        case measure => simp [intOf]; omega
      | false =>
        by_cases hl : lessS h QH = true
        · have PI := hide (PL.out HINV.out hl)
          obtain ⟨u1, u2⟩ := lessS_asymm hl
          have hne : (QH.toList == h.toList) = false := by rw [eq_beq]; exact decide_eq_false u2
          have hne2 : (QH.toList != h.toList) = true := by rw [bne, hne]; rfl
          have hne3 : (h.toList == QH.toList) = false := by rw [eq_beq]; exact decide_eq_false (fun e => u2 e.symm)
          have hle : Op.bytesLess h.toList QH.toList = true := hl
          have OL := hide (HOWN.out.alloc (.cells #[.string p.1, .string p.2] 65))
          have RL := hide (fun t ht => (HROWS.out t ht).alloc (.cells #[.string p.1, .string p.2] 65))
          have LP := hide (lit_pair (w := wr) p hbpr)
          have sL : W0.heap.size ≤ (wr.alloc (.cells #[.string p.1, .string p.2] 65)).heap.size := le_alloc hsz
          have NL := hide (HNX.out.alloc hsz (.cells #[.string p.1, .string p.2] 65))
          have hgr : g < wr.heap.size := Nat.lt_of_lt_of_le x1 (WB.out wr HNX.out).size
          have hgr2 : ¬ g = wr.heap.size := by omega
          have hpr : w.heap.size < wr.heap.size := Nat.lt_of_lt_of_le (by rw [S0.out]; exact Nat.lt_succ_self _) hsz
          have hpr2 : ¬ w.heap.size = wr.heap.size := by omega
          clear PL PS PM PD hl u1 u2 PP
          go_wp2_with (first
            | (at_builtin; refine wpList_append_own _ rfl _ _ 31 rfl W0.heap.size 49 i0 (.agg #[.string ⟨#[]⟩, .slice none 0 0]) 2 40 Try.underlying31 hi hz0 hz1 hz2 rfl (by decide) _ _ _ rfl (R2.out.alloc _) ⟨_, 0, none⟩ 1 1 (gcell [((QH, QL), .slice sq.1 QL.length sq.2.2)]) rfl (g_one_len _ _ _) (cell_grp _ QH QL (.slice sq.1 QL.length sq.2.2)) (g_one _ _ _ rfl) hm6 hm7 (le_alloc s2) ?_; intro v3 w3 o3 g3 n3; clear n3; have N3 := hide (app_below (n := 0) N2.out s2 R2.out g3); have GA3 := hide (GA.snoc (X := QH) (L := QL) R2.out Q2.out Y2.out ((Below.refl _ _).alloc (Nat.le_refl _) _) g3 o3); clear o3 g3)
            | (at_builtin; refine wpList_append_own _ rfl _ _ 31 rfl W0.heap.size 49 i0 (.agg #[.string ⟨#[]⟩, .slice none 0 0]) 2 40 Try.underlying31 hi hz0 hz1 hz2 rfl (by decide) _ _ _ rfl (OL.out.alloc _) ⟨_, 0, none⟩ 1 1 (gcell [((h, [p]), .slice (some ⟨wr.heap.size, 0, none⟩) 1 1)]) rfl (g_one_len _ _ _) (cell_grp2 _ _ h [p] (.slice (some ⟨wr.heap.size, 0, none⟩) 1 1)) (g_one _ _ _ rfl) hm1 hm2 (le_alloc sL) ?_; intro v2 w2 o2 g2 n2; clear n2; have N2 := hide (app_below (n := 0) NL.out sL OL.out g2); have GA2 := hide (GA.snoc (X := h) (L := [p]) OL.out RL.out LP.out ((Below.refl _ _).alloc (Nat.le_refl _) _) g2 o2); clear o2 g2; obtain ⟨ms2, e2, r2, q2⟩ := GA2.out; have R2 := hide r2; have Q2 := hide q2; have E2 := hide e2; have s2 := N2.out.size; obtain ⟨y0, y1, y2⟩ := HD.out w2 N2.out; have Y2 := hide y2; have hl2 : ms2.length = ms.length + 1 := (by have := congrArg List.length e2; simpa using this); have hm5 : ms2.length + 1 ≤ maxLen ∧ (ms2.length + 1) * 40 ≤ 140737488355328 := (by rw [hl2]; exact ⟨hm3, hm4⟩); obtain ⟨hm6, hm7⟩ := hm5; clear r2 q2 e2 y2 hl2))
          go_roundw
          case rel => exact ⟨j + 1, _, true, by omega, by go_num, rfl, PI.out, by have := GA3.out; rw [E2.out] at this; exact this, N3.out⟩
          case measure => simp [intOf]; omega
        · simp only [Bool.not_eq_true] at hl
          have hle : Op.bytesLess h.toList QH.toList = false := hl
          by_cases he : h = QH
          · have PI := hide (PS.out HINV.out he)
            have hne : (QH.toList == h.toList) = true := by rw [eq_beq]; exact decide_eq_true he.symm
            have hne2 : (QH.toList != h.toList) = false := by rw [bne, hne]; rfl
            have hne3 : (h.toList == QH.toList) = true := by rw [eq_beq]; exact decide_eq_true he
            have OL := hide (HOWN.out.alloc (.cells #[.string p.1, .string p.2] 65))
            have RL := hide (fun t ht => (HROWS.out t ht).alloc (.cells #[.string p.1, .string p.2] 65))
            have LP := hide (lit_pair (w := wr) p hbpr)
            have sL : W0.heap.size ≤ (wr.alloc (.cells #[.string p.1, .string p.2] 65)).heap.size := le_alloc hsz
            have NL := hide (HNX.out.alloc hsz (.cells #[.string p.1, .string p.2] 65))
            have hgr : g < wr.heap.size := Nat.lt_of_lt_of_le x1 (WB.out wr HNX.out).size
            have hgr2 : ¬ g = wr.heap.size := by omega
            have hpr : w.heap.size < wr.heap.size := Nat.lt_of_lt_of_le (by rw [S0.out]; exact Nat.lt_succ_self _) hsz
            have hpr2 : ¬ w.heap.size = wr.heap.size := by omega
            clear PL PS PM PD hl he
            have HSL : Hid (∀ w', Below (wr.alloc (.cells #[.string p.1, .string p.2] 65)).heap.size (wr.alloc (.cells #[.string p.1, .string p.2] 65)) w' → Below W0.heap.size W0 w' ∧ (w'.cell? ⟨g, j * 2 + 1, none⟩ = some (.slice sq.1 QL.length sq.2.2) ∧ w'.cell? ⟨w.heap.size, 0, none⟩ = some (.string p.1) ∧ w'.cell? ⟨w.heap.size, 1, none⟩ = some (.string p.2)) ∧ w'.cell? ⟨g, j * 2, none⟩ = some (.string QH)) := fun w' hb => by
              have b9 := NL.out.trans (hb.mono sL)
              exact ⟨b9, ⟨(HD.out w' b9).2.1, (CC.out w' b9).1, (CC.out w' b9).2⟩, (HD.out w' b9).1⟩
            simp only at PP
            go_wp2_with fail
            refine wp_region_held_drew (S := fun w' => w'.cell? ⟨g, j * 2 + 1, none⟩ = some (.slice sq.1 QL.length sq.2.2) ∧ w'.cell? ⟨w.heap.size, 0, none⟩ = some (.string p.1) ∧ w'.cell? ⟨w.heap.size, 1, none⟩ = some (.string p.2)) (by kernel_rfl) (HSL.out _ (Below.refl _ _).drew).2.1 (fun hHeld => ?_)
            refine wpAnyH_take (i := 0) (v := (.slice (some ⟨g, 0, none⟩) gs.length cv)) rfl (by kernel_rfl) (by kernel_rfl) (by kernel_rfl) (fun _ _ _ h => h) (Or.inl ⟨by rfl, ?_⟩) (by assumption) ?_
            · intro w' hSw
              (try dsimp only at hSw)
              go_simp <;> first | exact i64_in (by omega) (by omega) | exact u32_in (by omega) (by omega) | exact u32_add _ _ | (rw [Int.tmod_eq_emod_of_nonneg (by omega)]; omega) | (rw [Int.tdiv_eq_ediv_of_nonneg (by omega)]; omega) | omega
            (try simp only [Act.put, List.setIfInBounds_toArray, List.set_cons_zero, List.set_cons_succ])
            refine wpAnyH_take (i := 1) (v := (.int .i64 (j : Int))) rfl (by kernel_rfl) (by kernel_rfl) (by kernel_rfl) (fun _ _ _ h => h) (Or.inl ⟨by rfl, ?_⟩) (by assumption) ?_
            · intro w' hSw
              (try dsimp only at hSw)
              go_simp <;> first | exact i64_in (by omega) (by omega) | exact u32_in (by omega) (by omega) | exact u32_add _ _ | (rw [Int.tmod_eq_emod_of_nonneg (by omega)]; omega) | (rw [Int.tdiv_eq_ediv_of_nonneg (by omega)]; omega) | omega
            (try simp only [Act.put, List.setIfInBounds_toArray, List.set_cons_zero, List.set_cons_succ])
            refine wpAnyH_take (i := 2) (v := (.pointer (some ⟨g, j * 2, none⟩))) rfl (by kernel_rfl) (by kernel_rfl) (by kernel_rfl) (fun _ _ _ h => h) (Or.inl ⟨by rfl, ?_⟩) (by assumption) ?_
            · intro w' hSw
              (try dsimp only at hSw)
              go_simp <;> first | exact i64_in (by omega) (by omega) | exact u32_in (by omega) (by omega) | exact u32_add _ _ | (rw [Int.tmod_eq_emod_of_nonneg (by omega)]; omega) | (rw [Int.tdiv_eq_ediv_of_nonneg (by omega)]; omega) | omega
            (try simp only [Act.put, List.setIfInBounds_toArray, List.set_cons_zero, List.set_cons_succ])
            refine wpAnyH_take (i := 3) (v := (.pointer (some ⟨g, j * 2 + 1, none⟩))) rfl (by kernel_rfl) (by kernel_rfl) (by kernel_rfl) (fun _ _ _ h => h) (Or.inl ⟨by rfl, ?_⟩) (by assumption) ?_
            · intro w' hSw
              (try dsimp only at hSw)
              go_simp <;> first | exact i64_in (by omega) (by omega) | exact u32_in (by omega) (by omega) | exact u32_add _ _ | (rw [Int.tmod_eq_emod_of_nonneg (by omega)]; omega) | (rw [Int.tdiv_eq_ediv_of_nonneg (by omega)]; omega) | omega
            (try simp only [Act.put, List.setIfInBounds_toArray, List.set_cons_zero, List.set_cons_succ])
            refine wpAnyH_take (i := 4) (v := (.slice sq.1 QL.length sq.2.2)) rfl (by kernel_rfl) (by kernel_rfl) (by kernel_rfl) (fun _ _ _ h => h) (Or.inl ⟨by rfl, ?_⟩) (by assumption) ?_
            · intro w' hSw
              (try dsimp only at hSw)
              (obtain ⟨hS1, hS2, hS3⟩ := hSw; go_simp)
            (try simp only [Act.put, List.setIfInBounds_toArray, List.set_cons_zero, List.set_cons_succ])
            refine wpAnyH_take (i := 5) (v := (.agg #[.string p.1, .string p.2])) rfl (by kernel_rfl) (by kernel_rfl) (by kernel_rfl) (fun _ _ _ h => h) (Or.inl ⟨by rfl, ?_⟩) (by assumption) ?_
            · intro w' hSw
              (try dsimp only at hSw)
              (obtain ⟨hS1, hS2, hS3⟩ := hSw; go_simp)
            (try simp only [Act.put, List.setIfInBounds_toArray, List.set_cons_zero, List.set_cons_succ])
            refine wpAnyH_ready (rs := [6]) (by kernel_rfl) (by simp) ?_
            refine AllReadyH.cons rfl (fun K hK => ?_) AllReadyH.nil
            go_simp
            refine Calls.mono (PP.out _ (own_plies (s := (sq.1, QL.length, sq.2.2)) (HD.out _ NL.out.drew).2.2)) ?_
            rintro e w2 ⟨v2, rfl, o2, hb2⟩
            have B2 := (Below.refl (wr.alloc (.cells #[.string p.1, .string p.2] 65)).heap.size (wr.alloc (.cells #[.string p.1, .string p.2] 65))).drew.trans hb2
            refine hK.out _ _ (HSL.out _ B2).2.1 (fun hHeld => ?_)
            clear hK
            (try simp only [Act.put, List.setIfInBounds_toArray, List.set_cons_zero, List.set_cons_succ])
            refine wpAnyH_ready (rs := [7]) (by kernel_rfl) (by simp) ?_
            refine AllReadyH.cons rfl (fun K hK => ?_) AllReadyH.nil
            go_simp
            refine hK.out _ _ (HSL.out _ B2).2.1 (fun hHeld => ?_)
            clear hK
            (try simp only [Act.put, List.setIfInBounds_toArray, List.set_cons_zero, List.set_cons_succ])
            refine wpAnyH_done (by kernel_rfl) ?_ _
            obtain ⟨N2, _, y0⟩ := HSL.out w2 B2
            have s2 := N2.size
            obtain ⟨a2, c2, rfl⟩ := own_shape o2
            have O2 := hide (own_base (b2 := bp) o2 (by exact Nat.le_trans hbpr (Nat.le_of_lt (by simp))))
            have OW2 := hide (own_below OL.out B2)
            have RW2 := hide (fun t ht => own_below (RL.out t ht) B2)
            have HN2 := hide N2
            have HPL : Hid ((putP QL p).length = (putP QL p).length) := rfl
            clear o2 hb2 B2 N2 hHeld
            generalize putP QL p = PQ at *
            go_wp2_with (at_builtin; refine wpList_append_own _ rfl _ _ 31 rfl W0.heap.size 49 i0 (.agg #[.string ⟨#[]⟩, .slice none 0 0]) 2 40 Try.underlying31 hi hz0 hz1 hz2 rfl (by decide) _ _ _ rfl (OW2.out.alloc _) ⟨_, 0, none⟩ 1 1 (gcell [((h, PQ), .slice a2 PQ.length c2)]) rfl (g_one_len _ _ _) (cell_grp _ h PQ (.slice a2 PQ.length c2)) (g_one _ _ _ rfl) hm1 hm2 (le_alloc s2) ?_; intro v3 w3 o3 g3 n3; clear n3; have N3 := hide (app_below (n := 0) HN2.out s2 OW2.out g3); have GA3 := hide (GA.snoc (X := h) (L := PQ) OW2.out RW2.out O2.out ((Below.refl _ _).alloc (Nat.le_refl _) _) g3 o3); clear o3 g3; obtain ⟨y3, _, _⟩ := HD.out w3 N3.out)
            go_roundw
            case rel => exact ⟨j + 1, _, true, by omega, by go_num, rfl, PI.out, GA3.out, N3.out⟩
            case measure => simp [intOf]; omega
          · have PI := hide (PM.out HINV.out (lessS_no hl he))
            have hne : (QH.toList == h.toList) = false := by rw [eq_beq]; exact decide_eq_false (fun e => he e.symm)
            have hne2 : (QH.toList != h.toList) = true := by rw [bne, hne]; rfl
            have hne3 : (h.toList == QH.toList) = false := by rw [eq_beq]; exact decide_eq_false he
            clear PL PS PM PD hl he
            go_wp2_with (at_builtin; refine wpList_append_own _ rfl _ _ 31 rfl W0.heap.size 49 i0 (.agg #[.string ⟨#[]⟩, .slice none 0 0]) 2 40 Try.underlying31 hi hz0 hz1 hz2 rfl (by decide) _ _ _ rfl (HOWN.out.alloc _) ⟨_, 0, none⟩ 1 1 (gcell [((QH, QL), .slice sq.1 QL.length sq.2.2)]) rfl (g_one_len _ _ _) (cell_grp _ QH QL (.slice sq.1 QL.length sq.2.2)) (g_one _ _ _ rfl) hm1 hm2 (le_alloc hsz) ?_; intro v2 w2 o2 g2 n2; clear n2; have N2 := hide (app_below (n := 0) HNX.out hsz HOWN.out g2); have GA2 := hide (GA.snoc (X := QH) (L := QL) HOWN.out HROWS.out G2.out ((Below.refl _ wr).alloc (Nat.le_refl _) _) g2 o2); clear o2 g2)
            go_roundw
            case rel => exact ⟨j + 1, _, false, by omega, by go_num, rfl, PI.out, GA2.out, N2.out⟩
            case measure => simp [intOf]; omega
    · obtain rfl : j = gs.length := by omega
      clear hnx
      have hji : ¬ ((gs.length : Int) < (gs.length : Int)) := by omega
      cases db with
      | true =>
        have HEND : Hid (putG gs h p = ms.map Prod.fst) := (ginv_end HINV.out).trans (if_pos rfl)
        have GE := hide (⟨ms, rfl, own_base HOWN.out (show w.heap.size ≤ W0.heap.size by rw [S0.out]; exact Nat.le_succ _), HROWS.out⟩ : GA wr w.heap.size bp _ (ms.map Prod.fst))
        go_wp2_with fail
        go_ret
        exact ⟨_, rfl, by rw [HEND.out]; exact GE.out, WB.out _ HNX.out⟩
      | false =>
        have HEND : Hid (putG gs h p = ms.map Prod.fst ++ [(h, [p])]) := (ginv_end HINV.out).trans (if_neg (by simp))
        have OL := hide (HOWN.out.alloc (.cells #[.string p.1, .string p.2] 65))
        have RL := hide (fun t ht => (HROWS.out t ht).alloc (.cells #[.string p.1, .string p.2] 65))
        have LP := hide (lit_pair (w := wr) p hbpr)
        have sL : W0.heap.size ≤ (wr.alloc (.cells #[.string p.1, .string p.2] 65)).heap.size := le_alloc hsz
        have NL := hide (HNX.out.alloc hsz (.cells #[.string p.1, .string p.2] 65))
        have hpr : w.heap.size < wr.heap.size := Nat.lt_of_lt_of_le (by rw [S0.out]; exact Nat.lt_succ_self _) hsz
        have hpr2 : ¬ w.heap.size = wr.heap.size := by omega
        go_wp2_with (at_builtin; refine wpList_append_own _ rfl _ _ 31 rfl W0.heap.size 49 i0 (.agg #[.string ⟨#[]⟩, .slice none 0 0]) 2 40 Try.underlying31 hi hz0 hz1 hz2 rfl (by decide) _ _ _ rfl (OL.out.alloc _) ⟨_, 0, none⟩ 1 1 (gcell [((h, [p]), .slice (some ⟨wr.heap.size, 0, none⟩) 1 1)]) rfl (g_one_len _ _ _) (cell_grp2 _ _ h [p] (.slice (some ⟨wr.heap.size, 0, none⟩) 1 1)) (g_one _ _ _ rfl) hm1 hm2 (le_alloc sL) ?_; intro v2 w2 o2 g2 n2; clear n2; have N2 := hide (app_below (n := 0) NL.out sL OL.out g2); have GA2 := hide (GA.snoc (X := h) (L := [p]) OL.out RL.out LP.out ((Below.refl _ _).alloc (Nat.le_refl _) _) g2 o2); clear o2 g2)
        go_ret
        exact ⟨_, rfl, by rw [HEND.out]; obtain ⟨a, b, c, e⟩ := GA2.out; exact ⟨a, b, own_base c (by rw [S0.out]; exact Nat.le_succ _), e⟩, WB.out _ N2.out⟩
end Go.Proofs.Ythihmgdefbahpaa
namespace Go.Proofs.Ythihmgdefbahpaa
open Go.RowKit
set_option maxHeartbeats 1000000 in
set_option maxRecDepth 100000 in
set_option linter.unusedSimpArgs false in
/-- Lookup -/
theorem lookup_any (m : Int) (x d h k : ByteArray) (hx : x.size ≤ 1048576) (hd : d.size ≤ 1048576) (_ : h.size ≤ 1099511627776) (_ : k.size ≤ 1099511627776) (w : World) :
    Calls Try.prog 9 #[.int .i64 m, .agg #[.string x, .string d], .string h, .string k] w fun e w' => e = .returned (lkA m x d h k) ∧ Below w.heap.size w w' := by
  obtain ⟨W0, hW0⟩ : ∃ W0, W0 = w.alloc (.cells #[.string x, .string d] 23) := ⟨_, rfl⟩
  have s0 : W0.heap.size = w.heap.size + 1 := by rw [hW0]; simp
  have b0 : Below w.heap.size w W0 := by rw [hW0]; exact (Below.refl _ w).alloc (Nat.le_refl _) _
  have HB0 := hide b0
  have C1 := hide (decode_any m x d (by omega) (by omega) W0)
  obtain ⟨hs1, _⟩ := dcG_small m x d
  clear b0
  by_cases hE : dcE m x d = 0
  · obtain ⟨hr, he⟩ := dcG_rise hE
    have HR := hide hr
    have HE := hide he
    clear hr he
    by_cases hm : (h.size : Int) = m
    · have hmb : ((h.size : Int) != m) = false := by rw [hm]; simp
      have KEY := hide (fun w' => isKey_any k w')
      by_cases hky : 1 ≤ k.size ∧ k.size ≤ 255
      · have HA := hide (lk_ok (m := m) (x := x) (d := d) (h := h) (k := k) (by unfold lkE; rw [if_pos hE, if_pos hm, if_pos hky]))
        rw [decide_eq_true hky] at KEY
        rw [hE] at C1
        generalize dcG m x d = G at *
        clear hm hky hE
        go_enter Try.func9, Try.ntmps9
        go_wp2_with fail
        rw [← hW0]
        refine Calls.mono C1.out ?_
        rintro e w1 ⟨v1, rfl, o1, hb1⟩
        obtain ⟨qs, ao, g, cap, hql, hv, q1, q2, q3, q4⟩ := o1.quads
        obtain ⟨hrq, X, ps, po, pb, pcap, hgv, p1, p2, p3, p4, p5, p6⟩ := found_group (h := h) (k := k) HR.out HE.out hql q4
        have FG := hide (fun w' (hw : Below w1.heap.size w1 w') => findG_any ao g 0 cap qs h w' q1 (fun z => Nat.lt_of_lt_of_le (q2 z) hw.size) (fun i hi => (q3.below (q2 (by omega)) hw) i hi) (by omega) hrq)
        have FP := hide (fun w' (hw : Below w1.heap.size w1 w') => findP_any po pb 0 pcap ps k w' p1 (fun z => Nat.lt_of_lt_of_le (p2 z) hw.size) (fun i hi => (p3.below (p2 (by omega)) hw) i hi) (by omega) p5)
        rw [hgv, hql] at FG
        rw [hql] at hv
        subst hv
        rw [p6] at HA
        have HB1 := hide (HB0.out.trans (hb1.mono (by omega)))
        have s1 := hb1.size
        clear o1 hb1 hW0 q1 q2 q3 q4 hrq hgv p1 p2 p3 p5 p6
        generalize grpForB qs h = GB at *
        clear hql
        generalize G.length = QN at *
        go_wp2_with fail
        refine Calls.mono (KEY.out _) ?_
        rintro e w2 ⟨rfl, rfl⟩
        go_wp2_with fail
        refine Calls.mono (FG.out _ (Below.refl _ _)) ?_
        rintro e w3 ⟨rfl, hb3⟩
        have HB3 := hide hb3
        have s3 := hb3.size
        clear hb3
        go_wp2_with fail
        refine Calls.mono (FP.out _ (HB3.out.alloc (by omega) _)) ?_
        rintro e w4 ⟨rfl, hb4⟩
        have HB4 := hide (HB1.out.trans (((HB3.out.alloc (by omega) (.cells #[.string X, .slice po ps.length pcap] 49)).trans (hb4.mono (by simp; omega))).mono (by omega)))
        clear hb4
        cases hpf : pairFor ps k with
        | none =>
          have e1 : pairForV ps k = .agg #[.string ⟨#[]⟩, .string ⟨#[]⟩] := by unfold pairForV; rw [hpf]
          have e2 : pairForB ps k = false := by unfold pairForB; rw [hpf]; rfl
          rw [hpf] at HA
          rw [e1, e2]
          clear e1 e2 hpf
          go_wp2_with fail
          go_ret3
          exact ⟨by rw [HA.out]; rfl, HB4.out.alloc (Nat.le_trans (Nat.le_refl _) HB4.out.size) _⟩
        | some p =>
          obtain ⟨p1, p2⟩ := p
          have e1 : pairForV ps k = .agg #[.string p1, .string p2] := by unfold pairForV; rw [hpf]
          have e2 : pairForB ps k = true := by unfold pairForB; rw [hpf]; rfl
          rw [hpf] at HA
          rw [e1, e2]
          clear e1 e2 hpf
          go_wp2_with fail
          go_ret3
          exact ⟨by rw [HA.out]; rfl, HB4.out.alloc (Nat.le_trans (Nat.le_refl _) HB4.out.size) _⟩
      · have HA := hide (lk_err (m := m) (x := x) (d := d) (h := h) (k := k) (E := 32) (by unfold lkE; rw [if_pos hE, if_pos hm, if_neg hky]) (by omega))
        rw [decide_eq_false hky] at KEY
        rw [hE] at C1
        clear hm hky hE
        go_enter Try.func9, Try.ntmps9
        go_wp2_with fail
        rw [← hW0]
        refine Calls.mono C1.out ?_
        rintro e w1 ⟨v1, rfl, o1, hb1⟩
        have HB1 := hide (HB0.out.trans (hb1.mono (by omega)))
        clear o1 hb1 hW0
        go_wp2_with fail
        refine Calls.mono (KEY.out _) ?_
        rintro e w2 ⟨rfl, rfl⟩
        go_wp2_with fail
        go_ret3
        exact ⟨by rw [HA.out]; rfl, HB1.out⟩
    · have hmb : ((h.size : Int) != m) = true := by simpa using hm
      have HA := hide (lk_err (m := m) (x := x) (d := d) (h := h) (k := k) (E := 34) (by unfold lkE; rw [if_pos hE, if_neg hm]) (by omega))
      rw [hE] at C1
      clear hm hE
      go_enter Try.func9, Try.ntmps9
      go_wp2_with fail
      rw [← hW0]
      refine Calls.mono C1.out ?_
      rintro e w1 ⟨v1, rfl, o1, hb1⟩
      have HB1 := hide (HB0.out.trans (hb1.mono (by omega)))
      clear o1 hb1 hW0
      go_wp2_with fail
      go_ret3
      exact ⟨by rw [HA.out]; rfl, HB1.out⟩
  · have HA := hide (lk_err (m := m) (x := x) (d := d) (h := h) (k := k) (E := dcE m x d) (by unfold lkE; rw [if_neg hE]) hE)
    generalize dcE m x d = E at *
    have hEb : (E != 0) = true := by simpa using hE
    have hEc : (E == 0) = false := by simpa using hE
    clear hE
    go_enter Try.func9, Try.ntmps9
    go_wp2_with fail
    rw [← hW0]
    refine Calls.mono C1.out ?_
    rintro e w1 ⟨v1, rfl, o1, hb1⟩
    have HB1 := hide (HB0.out.trans (hb1.mono (by omega)))
    clear o1 hb1 hW0
    go_wp2_with fail
    go_ret3
    exact ⟨by rw [HA.out]; rfl, HB1.out⟩
end Go.Proofs.Ythihmgdefbahpaa
namespace Go.Proofs.Ythihmgdefbahpaa
open Go.RowKit
theorem pf_first {ps : List KV} {k : ByteArray} {j : Nat} (hr : Rises ps.length (fun t => (ps.getD t default).1)) (hj : j < ps.length) (e : ps[j].1 = k) : pairFor ps k = some ps[j] := pairFor_some hr hj (by rw [getD_at hj]; exact e)
theorem pf_never {ps : List KV} {k : ByteArray} (h : ∀ t (ht : t < ps.length), ps[t].1 ≠ k) : pairFor ps k = none := pairFor_none (fun t ht => by rw [getD_at ht]; exact h t ht)
set_option maxHeartbeats 2000000 in
set_option maxRecDepth 100000 in
set_option linter.unusedSimpArgs false in
/-- the document's Among -/
theorem among_any (v : Value) (base : Nat) (gs : List GR) (h k : ByteArray) (w : World) (hG : GroupsAt w base v gs) (hr : Rises gs.length (fun t => (gs.getD t default).1)) (he : ∀ g ∈ gs, errL g.2 = 0) (hlen : gs.length ≤ 1048576) :
    Calls Try.prog 40 #[v, .string h, .string k] w fun e w' => e = .returned (.tuple #[.string ((lkV gs h k).getD ⟨#[]⟩), .bool (lkV gs h k).isSome]) ∧ Below w.heap.size w w' := by
  obtain ⟨ao, g, cap, rfl, h1, h2, h3⟩ := hG.split
  have H3 := hide h3
  have HR := hide hr
  have HE := hide he
  clear hG h3 hr he
  go_enter Try.func40, Try.ntmps40
  go_wp2_with fail
  go_loopw [8] (fun i wr => ∃ j : Nat, j ≤ gs.length ∧ i = .int .i64 j ∧ (∀ t (ht : t < gs.length), t < j → gs[t].1 = h → pairFor gs[t].2 k = none) ∧ Below w.heap.size w wr) (fun i _ => gs.length - (intOf i).toNat)
  case atStart => exact ⟨0, Nat.zero_le _, rfl, fun t _ ht => by omega, Below.refl _ _⟩
  case round =>
    obtain ⟨i, hi, rfl, hno, hnx⟩ := hrel
    by_cases hlt : i < gs.length
    · obtain rfl := h1 (by omega)
      have t1 := h2 (by omega)
      obtain ⟨p1, d1, d2, d3⟩ := H3.out i hlt
      obtain ⟨q1, r1, u1, rfl, x11, x12, x13⟩ := own_pairs d3
      have hfine := fine (HE.out _ (List.getElem_mem hlt))
      have KR := hide (keys_rise (HE.out _ (List.getElem_mem hlt)))
      obtain ⟨ps, hps⟩ : ∃ ps, ps = gs[i].2 := ⟨_, rfl⟩
      obtain ⟨X, hX⟩ : ∃ X, X = gs[i].1 := ⟨_, rfl⟩
      rw [← hps] at d2 d3 x11 x12 x13 hfine KR
      rw [← hX] at d1
      have x0 := x11 (by omega)
      subst x0
      have x12' := x12 (by omega)
      have HX := hide hX
      have HPS := hide hps
      have HNO := hide hno
      have HD : Hid (∀ w', Below w.heap.size w w' → w'.cell? ⟨g, i * 2, none⟩ = some (.string X) ∧ w'.cell? ⟨g, i * 2 + 1, none⟩ = some (.slice (some ⟨r1, 0, none⟩) ps.length u1) ∧ LiesP r1 0 w' ps) := fun w' hw => by
        rw [hw.cell (by exact t1), hw.cell (by exact t1)]
        exact ⟨d1, d2, x13.below x12' hw⟩
      have hpl : ps.length ≤ 512 := hfine.1
      have HNX := hide hnx
      have hii : (i : Int) < (gs.length : Int) := by omega
      clear hno hnx hX hps d1 d2 d3 x11 x12 x13 hfine
      go_wp2_with fail
      go_loopw [9] (fun jv wr2 => ∃ j : Nat, j ≤ ps.length ∧ jv = .int .i64 j ∧ (X = h → ∀ t (ht : t < ps.length), t < j → ps[t].1 ≠ k) ∧ Below w.heap.size w wr2) (fun jv _ => ps.length - (intOf jv).toNat)
      case atStart => exact ⟨0, Nat.zero_le _, rfl, fun _ t _ ht => by omega, HNX.out⟩
      case round =>
        obtain ⟨j, hj, rfl, hin, hnx2⟩ := hrel
        have HIN := hide hin
        have HN2 := hide hnx2
        obtain ⟨c0, c1, c2⟩ := HD.out wr hnx2
        have C2 := hide c2
        clear hin hnx2 c2
        by_cases hjl : j < ps.length
        · have hji : (j : Int) < (ps.length : Int) := by omega
          obtain ⟨y0, y1⟩ := C2.out j hjl
          rw [Nat.zero_add] at y0 y1
          by_cases hX : X = h
          · have hXb : (X.toList == h.toList) = true := by rw [eq_beq]; exact decide_eq_true hX
            by_cases hK : ps[j].1 = k
            · have hKb : (ps[j].1.toList == k.toList) = true := by rw [eq_beq]; exact decide_eq_true hK
              have LK : Hid (lkV gs h k = some ps[j].2) := by
                have e : lkV gs h k = some ps[j].2 := by
                  rw [lk_some HR.out hlt (HX.out.symm.trans hX), ← HPS.out, pf_first KR.out hjl hK]; rfl
                exact e
              clear hX hK
              generalize ps[j].1 = K1 at *
              generalize ps[j].2 = V1 at *
              go_wp2_with fail
              go_ret2
              exact ⟨by rw [LK.out]; rfl, HN2.out⟩
            · have hKb : (ps[j].1.toList == k.toList) = false := by rw [eq_beq]; exact decide_eq_false hK
              have REL : Hid (X = h → ∀ t (ht : t < ps.length), t < j + 1 → ps[t].1 ≠ k) := by
                intro e t ht ht2
                rcases Nat.lt_or_ge t j with h5 | h5
                · exact HIN.out e t ht h5
                · obtain rfl : t = j := by omega
                  exact hK
              clear hX hK
              generalize ps[j].1 = K1 at *
              generalize ps[j].2 = V1 at *
              go_wp2_with fail
              go_roundw
              case rel => exact ⟨j + 1, by omega, by go_num, REL.out, HN2.out⟩
              case measure => simp [intOf]; omega
          · have hXb : (X.toList == h.toList) = false := by rw [eq_beq]; exact decide_eq_false hX
            have REL : Hid (X = h → ∀ t (ht : t < ps.length), t < j + 1 → ps[t].1 ≠ k) := fun e => absurd e hX
            clear hX
            generalize ps[j].1 = K1 at *
            generalize ps[j].2 = V1 at *
            go_wp2_with fail
            go_roundw
            case rel => exact ⟨j + 1, by omega, by go_num, REL.out, HN2.out⟩
            case measure => simp [intOf]; omega
        · have hji : ¬ (j : Int) < (ps.length : Int) := by omega
          have REL : Hid (∀ t (ht : t < gs.length), t < i + 1 → gs[t].1 = h → pairFor gs[t].2 k = none) := by
            intro t ht ht2 e
            rcases Nat.lt_or_ge t i with h5 | h5
            · exact HNO.out t ht h5 e
            · obtain rfl : t = i := by omega
              rw [← HPS.out]
              exact pf_never (fun u hu => HIN.out (HX.out.trans e) u hu (by omega))
          go_wp2_with fail
          go_roundw
          case rel => exact ⟨i + 1, by omega, by go_num, REL.out, HN2.out⟩
          case measure => simp [intOf]; omega
    · have hii : ¬ (i : Int) < (gs.length : Int) := by omega
      have LK : Hid (lkV gs h k = none) := by
        have e : lkV gs h k = none := by
          by_cases hx : ∃ t, ∃ (ht : t < gs.length), gs[t].1 = h
          · obtain ⟨t, ht, e⟩ := hx
            rw [lk_some HR.out ht e, hno t ht (by omega) e]; rfl
          · exact lk_none (fun t ht e => hx ⟨t, ht, e⟩)
        exact e
      have HNX := hide hnx
      clear hno hnx
      go_wp2_with fail
      go_ret2
      exact ⟨by rw [LK.out]; rfl, HNX.out⟩
end Go.Proofs.Ythihmgdefbahpaa
