import Derived.Test.YtfmmfophdfjopaaGRkBack
import Derived.Test.YtfmmfophdfjopaaGRySame
namespace Go.Proofs.Ytfmmfophdfjopaa
open Go.RowKit
theorem putG_append {a b : List GR} {h : ByteArray} {p : KV} (hl : ∀ x ∈ a, lessS x.1 h = true) : putG (a ++ b) h p = a ++ putG b h p := by
  induction a with
  | nil => rfl
  | cons x r ih =>
    obtain ⟨u1, u2⟩ := lessS_asymm (hl x List.mem_cons_self)
    rw [List.cons_append, putG, u1, if_neg (by simp), if_neg u2, ih (fun y hy => hl y (List.mem_cons_of_mem _ hy)), List.cons_append]
theorem putG_len (l : List GR) (h : ByteArray) (p : KV) : (putG l h p).length ≤ l.length + 1 := by
  induction l with
  | nil => simp [putG]
  | cons a r ih =>
    unfold putG
    split
    · simp
    · split
      · simp
      · simp only [List.length_cons]; omega
/-- how far putGroup is -/
def GInv (ps : List GR) (h : ByteArray) (p : KV) (j : Nat) (m : List GR) (d : Bool) : Prop :=
  (d = false ∧ m = ps.take j ∧ ∀ x ∈ ps.take j, lessS x.1 h = true) ∨ (d = true ∧ m ++ ps.drop j = putG ps h p ∧ ∀ x ∈ ps.drop j, lessS h x.1 = true)
theorem GInv.len {ps : List GR} {h : ByteArray} {p : KV} {j : Nat} {m : List GR} {d : Bool} (hv : GInv ps h p j m d) : m.length ≤ ps.length + 1 := by
  rcases hv with ⟨_, rfl, _⟩ | ⟨_, h, _⟩
  · rw [List.length_take]; omega
  · have := congrArg List.length h
    rw [List.length_append] at this
    have := putG_len ps ‹_› p
    omega
theorem ginv_less {ps : List GR} {h : ByteArray} {p : KV} {j : Nat} {m : List GR} (hu : UpG ps) (hv : GInv ps h p j m false) (hj : j < ps.length) (hl : lessS h ps[j].1 = true) : GInv ps h p (j + 1) (m ++ [(h, [p])] ++ [ps[j]]) true := by
  rcases hv with ⟨_, rfl, h3⟩ | ⟨hv, _⟩
  · have hd := List.drop_eq_getElem_cons hj
    right
    refine ⟨rfl, ?_, fun x hx => ?_⟩
    · have e : putG ps h p = ps.take j ++ putG (ps.drop j) h p := by
        conv => lhs; rw [← List.take_append_drop j ps]
        exact putG_append h3
      rw [e, hd, putG, if_pos hl]
      simp
    · obtain ⟨t, ht, rfl⟩ := List.getElem_of_mem hx
      rw [List.length_drop] at ht
      rw [List.getElem_drop]
      exact lessS_trans hl (List.pairwise_iff_getElem.1 hu j (j + 1 + t) hj (by omega) (by omega))
  · cases hv
theorem ginv_same {ps : List GR} {h : ByteArray} {p : KV} {j : Nat} {m : List GR} (hu : UpG ps) (hv : GInv ps h p j m false) (hj : j < ps.length) (hl : h = ps[j].1) : GInv ps h p (j + 1) (m ++ [(h, putP ps[j].2 p)]) true := by
  rcases hv with ⟨_, rfl, h3⟩ | ⟨hv, _⟩
  · have hd := List.drop_eq_getElem_cons hj
    right
    refine ⟨rfl, ?_, fun x hx => ?_⟩
    · have e : putG ps h p = ps.take j ++ putG (ps.drop j) h p := by
        conv => lhs; rw [← List.take_append_drop j ps]
        exact putG_append h3
      rw [e, hd, putG, hl, lessS_irrefl, if_neg (by simp), if_pos rfl]
      simp
    · obtain ⟨t, ht, rfl⟩ := List.getElem_of_mem hx
      rw [List.length_drop] at ht
      rw [List.getElem_drop, hl]
      exact List.pairwise_iff_getElem.1 hu j (j + 1 + t) hj (by omega) (by omega)
  · cases hv
theorem ginv_more {ps : List GR} {h : ByteArray} {p : KV} {j : Nat} {m : List GR} (hv : GInv ps h p j m false) (hj : j < ps.length) (hl : lessS ps[j].1 h = true) : GInv ps h p (j + 1) (m ++ [ps[j]]) false := by
  rcases hv with ⟨_, rfl, h3⟩ | ⟨hv, _⟩
  · left
    refine ⟨rfl, (List.take_succ_eq_append_getElem hj).symm, fun x hx => ?_⟩
    rw [List.take_succ_eq_append_getElem hj] at hx
    rcases List.mem_append.1 hx with hx | hx
    · exact h3 x hx
    · rw [List.mem_singleton] at hx; rw [hx]; exact hl
  · cases hv
theorem ginv_done {ps : List GR} {h : ByteArray} {p : KV} {j : Nat} {m : List GR} (hv : GInv ps h p j m true) (hj : j < ps.length) : GInv ps h p (j + 1) (m ++ [ps[j]]) true ∧ lessS h ps[j].1 = true := by
  rcases hv with ⟨hv, _⟩ | ⟨_, h2, h3⟩
  · cases hv
  · have hd := List.drop_eq_getElem_cons hj
    refine ⟨.inr ⟨rfl, ?_, fun x hx => h3 x (by rw [hd]; exact List.mem_cons_of_mem _ hx)⟩, h3 _ (by rw [hd]; exact List.mem_cons_self)⟩
    rw [← h2, hd]; simp
theorem ginv_end {ps : List GR} {h : ByteArray} {p : KV} {m : List GR} {d : Bool} (hv : GInv ps h p ps.length m d) : putG ps h p = if d then m else m ++ [(h, [p])] := by
  rcases hv with ⟨rfl, rfl, h3⟩ | ⟨rfl, h2, _⟩
  · rw [if_neg (by simp), List.take_length] at *
    have := putG_append (b := []) (p := p) h3
    rwa [List.append_nil] at this
  · rw [if_pos rfl, ← h2]; simp
/-- groups in memory, the list's block and the pairs' blocks apart -/
def GA (w : World) (bl bp : Nat) (v : Value) (gs : List GR) : Prop := ∃ ts : List (GR × Value), ts.map Prod.fst = gs ∧ w.ownsRow bl 41 2 v ts.length (gcell ts) ∧ ∀ t ∈ ts, w.ownsRow bp 55 2 t.2 t.1.2.length (pc t.1.2)
theorem GA.groups {w : World} {bl bp b : Nat} {v : Value} {gs : List GR} (h : GA w bl bp v gs) (h1 : b ≤ bl) (h2 : b ≤ bp) : GroupsAt w b v gs := by
  obtain ⟨ts, e, r, q⟩ := h
  exact ⟨ts, e, own_base r h1, fun t ht => own_base (q t ht) h2⟩
theorem GA.nil (w : World) (bl bp : Nat) : GA w bl bp (.slice none 0 0) [] := ⟨[], rfl, World.ownsRow_nil _ _ _ _, fun t ht => by cases ht⟩
theorem GA.below {w w' : World} {bl bp : Nat} {v : Value} {gs : List GR} (h : GA w bl bp v gs) (hb : Below w.heap.size w w') : GA w' bl bp v gs := by
  obtain ⟨ts, h1, h2, h3⟩ := h
  exact ⟨ts, h1, own_below h2 hb, fun t ht => own_below (h3 t ht) hb⟩
/-- one more group -/
theorem GA.snoc {w W w' : World} {bl bp : Nat} {v v' : Value} {ts : List (GR × Value)} {X : ByteArray} {L : List KV} {pv : Value} (hr : w.ownsRow bl 41 2 v ts.length (gcell ts)) (hq : ∀ t ∈ ts, w.ownsRow bp 55 2 t.2 t.1.2.length (pc t.1.2)) (hp : w.ownsRow bp 55 2 pv L.length (pc L))
    (hW : Below w.heap.size w W) (g : W.grownBy w' v.ownBlock) (o : w'.ownsRow bl 41 2 v' (ts.length + 1) (gcell ts ++ gcell [((X, L), pv)])) : GA w' bl bp v' (ts.map Prod.fst ++ [(X, L)]) := by
  refine ⟨ts ++ [((X, L), pv)], by rw [List.map_append]; rfl, by rw [gcell_append, List.length_append]; exact o, fun t ht => ?_⟩
  rcases List.mem_append.1 ht with ht | ht
  · exact row_type (own_below (hq t ht) hW) (own_below hr hW) (by decide) g
  · obtain rfl : t = ((X, L), pv) := by simpa using ht
    exact row_type (own_below hp hW) (own_below hr hW) (by decide) g
end Go.Proofs.Ytfmmfophdfjopaa
namespace Go.Proofs.Ytfmmfophdfjopaa
open Go.RowKit
theorem GA.split {w : World} {bl bp : Nat} {v : Value} {gs : List GR} (h : GA w bl bp v gs) : ∃ ao g cap, v = .slice ao gs.length cap ∧ (0 < gs.length → ao = some ⟨g, 0, none⟩) ∧ (0 < gs.length → g < w.heap.size) ∧
    ∀ i (hi : i < gs.length), ∃ s : SQ, w.cell? ⟨g, i * 2, none⟩ = some (.string gs[i].1) ∧ w.cell? ⟨g, i * 2 + 1, none⟩ = some (.slice s.1 gs[i].2.length s.2.2) ∧ s.2.1 = gs[i].2.length ∧ w.ownsRow bp 55 2 (.slice s.1 gs[i].2.length s.2.2) gs[i].2.length (pc gs[i].2) := by
  obtain ⟨ts, rfl, h2, h3⟩ := h
  simp only [List.length_map]
  rcases h2.2 with ⟨rfl, h0⟩ | ⟨g, cap, cur, rfl, hg, hblk, _⟩
  · obtain rfl := List.length_eq_zero_iff.1 h0
    exact ⟨none, 0, 0, rfl, fun k => by simp at k, fun k => by simp at k, fun i hi => by simp at hi⟩
  · refine ⟨some ⟨g, 0, none⟩, g, cap, rfl, fun _ => rfl, fun _ => row_lt h2, fun i hi => ?_⟩
    have hr := h3 _ (List.getElem_mem hi)
    obtain ⟨a, c, e⟩ := own_shape hr
    rw [List.getElem_map]
    refine ⟨(a, ts[i].1.2.length, c), ?_, ?_, rfl, ?_⟩
    · rw [h2.cellAt (i * 2) (by omega), (gcell_at ts i hi).1]
    · rw [h2.cellAt (i * 2 + 1) (by omega), (gcell_at ts i hi).2, e]
    · simp only; rw [← e]; exact hr
theorem cell_grp2 (w : World) (o : Obj) (X : ByteArray) (L : List KV) (v : Value) : ∀ j u, (gcell [((X, L), v)])[j]? = some u → ((w.alloc o).alloc (.cells #[.string X, v] 41)).cell? ((⟨w.heap.size + 1, 0, none⟩ : Addr).add j) = some u := by
  have := cell_grp (w.alloc o) X L v
  rwa [show (w.alloc o).heap.size = w.heap.size + 1 by simp] at this
theorem lit_pair {w : World} {bp : Nat} (p : KV) (hb : bp ≤ w.heap.size) : (w.alloc (.cells #[.string p.1, .string p.2] 55)).ownsRow bp 55 2 (.slice (some ⟨w.heap.size, 0, none⟩) 1 1) [p].length (pc [p]) := by
  have := World.ownsRow_lit (base := bp) (e := 55) (size := 2) w #[.string p.1, .string p.2] 1 hb (by unfold maxLen; omega) rfl
  rw [pc_two]
  exact this
set_option maxHeartbeats 2000000 in
set_option maxRecDepth 100000 in
set_option linter.unusedSimpArgs false in
/-- putGroup -/
theorem putGroup_any (v : Value) (bl bp : Nat) (gs : List GR) (h : ByteArray) (p : KV) (w : World) (hg : GA w bl bp v gs) (hbp : bp ≤ w.heap.size) (hu : UpG gs) (hup : ∀ g ∈ gs, UpP g.2) (hlen : gs.length ≤ 65536) (hps : ∀ g ∈ gs, g.2.length ≤ 65536) :
    Calls Try.prog 16 #[v, .string h, .agg #[.string p.1, .string p.2]] w fun e w' => ∃ v', e = .returned v' ∧ GA w' w.heap.size bp v' (putG gs h p) ∧ Below w.heap.size w w' := by
  obtain ⟨i0, hi, hz0, hz1, hz2⟩ := info_parts infoG
  obtain ⟨i1, hj, hy0, hy1, hy2⟩ := info_parts infoP
  obtain ⟨av, g, cv, rfl, hav, hgl, hcell⟩ := hg.split
  have HC := hide hcell
  have HU := hide hu
  have HUP := hide hup
  have HPS := hide hps
  clear hcell hg hu hup hps
  obtain ⟨W0, hW0⟩ : ∃ W0, W0 = w.alloc (.cells #[.string p.1, .string p.2] 55) := ⟨_, rfl⟩
  have s0 : W0.heap.size = w.heap.size + 1 := by rw [hW0]; simp
  have b0 : Below w.heap.size w W0 := by rw [hW0]; exact (Below.refl _ w).alloc (Nat.le_refl _) _
  have CC : Hid (∀ w', Below W0.heap.size W0 w' → w'.cell? ⟨w.heap.size, 0, none⟩ = some (.string p.1) ∧ w'.cell? ⟨w.heap.size, 1, none⟩ = some (.string p.2)) := fun w' hb => by
    rw [hb.cell (by rw [s0]; exact Nat.lt_succ_self _), hb.cell (by rw [s0]; exact Nat.lt_succ_self _), hW0]
    exact ⟨by simp, by simp⟩
  have HB0 := hide b0
  have S0 := hide s0
  clear b0 s0
  go_enter Try.func16, Try.ntmps16
  go_wp2_with fail
  rw [← hW0]
  go_loopw [7, 8, 9] (fun v d i wr => ∃ (j : Nat) (m : List GR) (db : Bool), j ≤ gs.length ∧ i = .int .i64 (j : Int) ∧ d = .bool db ∧ GInv gs h p j m db ∧ GA wr W0.heap.size bp v m ∧ Below W0.heap.size W0 wr)
    (fun _ _ i _ => gs.length - (intOf i).toNat)
  case atStart => exact ⟨0, [], false, Nat.zero_le _, rfl, rfl, .inl ⟨rfl, rfl, fun x hx => by cases hx⟩, GA.nil _ _ _, Below.refl _ _⟩
  case round =>
    obtain ⟨j, m, db, hj9, rfl, rfl, hinv, hga, hnx⟩ := hrel
    have hml := hinv.len
    obtain ⟨hm1, hm2⟩ : m.length + 1 ≤ maxLen ∧ (m.length + 1) * 40 ≤ 140737488355328 := by unfold maxLen; omega
    obtain ⟨hm3, hm4⟩ : m.length + 1 + 1 ≤ maxLen ∧ (m.length + 1 + 1) * 40 ≤ 140737488355328 := by unfold maxLen; omega
    have hsz := hnx.size
    have hbpr : bp ≤ wr.heap.size := Nat.le_trans hbp (Nat.le_trans (by rw [S0.out]; exact Nat.le_succ _) hsz)
    obtain ⟨cc0, cc1⟩ := CC.out wr hnx
    have HINV := hide hinv
    have HNX := hide hnx
    obtain ⟨ms, hms, hown, hrows⟩ := hga
    subst hms
    rw [List.length_map] at hm1 hm2 hm3 hm4
    have HOWN := hide hown
    have HROWS := hide hrows
    have WB := hide (fun w' (hb : Below W0.heap.size W0 w') => HB0.out.trans (hb.mono (by rw [S0.out]; exact Nat.le_succ _)))
    clear hinv hown hml hrows
    by_cases hlt : j < gs.length
    · have x0 := hav (by omega)
      have x1 := hgl (by omega)
      subst x0
      obtain ⟨sq, d0, d1, d2, d3⟩ := HC.out j hlt
      have hji : (j : Int) < (gs.length : Int) := by omega
      have HD := hide (fun w' (hb : Below W0.heap.size W0 w') => (⟨by rw [(WB.out w' hb).cell (by exact x1)]; exact d0, by rw [(WB.out w' hb).cell (by exact x1)]; exact d1, own_below d3 (WB.out w' hb)⟩ : w'.cell? ⟨g, j * 2, none⟩ = some (.string gs[j].1) ∧ w'.cell? ⟨g, j * 2 + 1, none⟩ = some (.slice sq.1 gs[j].2.length sq.2.2) ∧ w'.ownsRow bp 55 2 (.slice sq.1 gs[j].2.length sq.2.2) gs[j].2.length (pc gs[j].2)))
      have PL := hide (fun a q => ginv_less (j := j) (m := ms.map Prod.fst) (h := h) (p := p) HU.out a hlt q)
      have PS := hide (fun a q => ginv_same (j := j) (m := ms.map Prod.fst) (h := h) (p := p) HU.out a hlt q)
      have PM := hide (fun a q => ginv_more (j := j) (m := ms.map Prod.fst) (h := h) (p := p) a hlt q)
      have PD := hide (fun a => ginv_done (j := j) (m := ms.map Prod.fst) (h := h) (p := p) a hlt)
      have PP := hide (fun w' (hq : PLies w' (sq.1, (gs[j]'hlt).2.length, sq.2.2) (gs[j]'hlt).2) => putPair_any (sq.1, gs[j].2.length, sq.2.2) gs[j].2 p w' hq (HUP.out _ (List.getElem_mem hlt)) (HPS.out _ (List.getElem_mem hlt)))
      have hQe : gs[j] = (gs[j].1, gs[j].2) := rfl
      rw [hQe] at PL PM PD
      clear hnx d0 d1 d2 d3 hQe
      generalize gs[j].1 = QH at *
      generalize gs[j].2 = QL at *
      obtain ⟨g0, g1, g2⟩ := HD.out wr HNX.out
      have G2 := hide g2
      clear g2
      cases db with
      | true =>
        obtain ⟨PI, hlq⟩ := PD.out HINV.out
        have HPI := hide PI
        obtain ⟨u1, u2⟩ := lessS_asymm hlq
        have hne : (QH.toList == h.toList) = false := by rw [eq_beq]; exact decide_eq_false u2
        have hne2 : (QH.toList != h.toList) = true := by rw [bne, hne]; rfl
        clear PL PS PM PD PI hlq u1 u2
        go_wp2_with (at_builtin; refine wpList_append_own _ rfl _ _ 24 rfl W0.heap.size 41 i0 (.agg #[.string ⟨#[]⟩, .slice none 0 0]) 2 40 Try.underlying24 hi hz0 hz1 hz2 rfl (by decide) _ _ _ rfl (HOWN.out.alloc _) ⟨_, 0, none⟩ 1 1 (gcell [((QH, QL), .slice sq.1 QL.length sq.2.2)]) rfl (g_one_len _ _ _) (cell_grp _ QH QL (.slice sq.1 QL.length sq.2.2)) (g_one _ _ _ rfl) hm1 hm2 (le_alloc hsz) ?_; intro v2 w2 o2 g2 n2; clear n2; have N2 := hide (app_below (n := 0) HNX.out hsz HOWN.out g2); have GA2 := hide (GA.snoc (X := QH) (L := QL) HOWN.out HROWS.out G2.out ((Below.refl _ wr).alloc (Nat.le_refl _) _) g2 o2); clear o2 g2)
        go_roundw
        case rel => exact ⟨j + 1, _, true, by omega, by go_num, rfl, HPI.out, GA2.out, N2.out⟩
        case measure => simp [intOf]; omega
      | false =>
        by_cases hl : lessS h QH = true
        · have PI := hide (PL.out HINV.out hl)
          obtain ⟨u1, u2⟩ := lessS_asymm hl
          have hne : (QH.toList == h.toList) = false := by rw [eq_beq]; exact decide_eq_false u2
          have hne2 : (QH.toList != h.toList) = true := by rw [bne, hne]; rfl
          have hne3 : (h.toList == QH.toList) = false := by rw [eq_beq]; exact decide_eq_false (fun e => u2 e.symm)
          have hle : Op.bytesLess h.toList QH.toList = true := hl
          have OL := hide (HOWN.out.alloc (.cells #[.string p.1, .string p.2] 55))
          have RL := hide (fun t ht => (HROWS.out t ht).alloc (.cells #[.string p.1, .string p.2] 55))
          have LP := hide (lit_pair (w := wr) p hbpr)
          have sL : W0.heap.size ≤ (wr.alloc (.cells #[.string p.1, .string p.2] 55)).heap.size := le_alloc hsz
          have NL := hide (HNX.out.alloc hsz (.cells #[.string p.1, .string p.2] 55))
          have hgr : g < wr.heap.size := Nat.lt_of_lt_of_le x1 (WB.out wr HNX.out).size
          have hgr2 : ¬ g = wr.heap.size := by omega
          have hpr : w.heap.size < wr.heap.size := Nat.lt_of_lt_of_le (by rw [S0.out]; exact Nat.lt_succ_self _) hsz
          have hpr2 : ¬ w.heap.size = wr.heap.size := by omega
          clear PL PS PM PD hl u1 u2 PP
          go_wp2_with (first
            | (at_builtin; refine wpList_append_own _ rfl _ _ 24 rfl W0.heap.size 41 i0 (.agg #[.string ⟨#[]⟩, .slice none 0 0]) 2 40 Try.underlying24 hi hz0 hz1 hz2 rfl (by decide) _ _ _ rfl (R2.out.alloc _) ⟨_, 0, none⟩ 1 1 (gcell [((QH, QL), .slice sq.1 QL.length sq.2.2)]) rfl (g_one_len _ _ _) (cell_grp _ QH QL (.slice sq.1 QL.length sq.2.2)) (g_one _ _ _ rfl) hm6 hm7 (le_alloc s2) ?_; intro v3 w3 o3 g3 n3; clear n3; have N3 := hide (app_below (n := 0) N2.out s2 R2.out g3); have GA3 := hide (GA.snoc (X := QH) (L := QL) R2.out Q2.out Y2.out ((Below.refl _ _).alloc (Nat.le_refl _) _) g3 o3); clear o3 g3)
            | (at_builtin; refine wpList_append_own _ rfl _ _ 24 rfl W0.heap.size 41 i0 (.agg #[.string ⟨#[]⟩, .slice none 0 0]) 2 40 Try.underlying24 hi hz0 hz1 hz2 rfl (by decide) _ _ _ rfl (OL.out.alloc _) ⟨_, 0, none⟩ 1 1 (gcell [((h, [p]), .slice (some ⟨wr.heap.size, 0, none⟩) 1 1)]) rfl (g_one_len _ _ _) (cell_grp2 _ _ h [p] (.slice (some ⟨wr.heap.size, 0, none⟩) 1 1)) (g_one _ _ _ rfl) hm1 hm2 (le_alloc sL) ?_; intro v2 w2 o2 g2 n2; clear n2; have N2 := hide (app_below (n := 0) NL.out sL OL.out g2); have GA2 := hide (GA.snoc (X := h) (L := [p]) OL.out RL.out LP.out ((Below.refl _ _).alloc (Nat.le_refl _) _) g2 o2); clear o2 g2; obtain ⟨ms2, e2, r2, q2⟩ := GA2.out; have R2 := hide r2; have Q2 := hide q2; have E2 := hide e2; have s2 := N2.out.size; obtain ⟨y0, y1, y2⟩ := HD.out w2 N2.out; have Y2 := hide y2; have hl2 : ms2.length = ms.length + 1 := (by have := congrArg List.length e2; simpa using this); have hm5 : ms2.length + 1 ≤ maxLen ∧ (ms2.length + 1) * 40 ≤ 140737488355328 := (by rw [hl2]; exact ⟨hm3, hm4⟩); obtain ⟨hm6, hm7⟩ := hm5; clear r2 q2 e2 y2 hl2))
          go_roundw
          case rel => exact ⟨j + 1, _, true, by omega, by go_num, rfl, PI.out, by have := GA3.out; rw [E2.out] at this; exact this, N3.out⟩
          case measure => simp [intOf]; omega
        · simp only [Bool.not_eq_true] at hl
          have hle : Op.bytesLess h.toList QH.toList = false := hl
          by_cases he : h = QH
          · have PI := hide (PS.out HINV.out he)
            have hne : (QH.toList == h.toList) = true := by rw [eq_beq]; exact decide_eq_true he.symm
            have hne2 : (QH.toList != h.toList) = false := by rw [bne, hne]; rfl
            have hne3 : (h.toList == QH.toList) = true := by rw [eq_beq]; exact decide_eq_true he
            have OL := hide (HOWN.out.alloc (.cells #[.string p.1, .string p.2] 55))
            have RL := hide (fun t ht => (HROWS.out t ht).alloc (.cells #[.string p.1, .string p.2] 55))
            have LP := hide (lit_pair (w := wr) p hbpr)
            have sL : W0.heap.size ≤ (wr.alloc (.cells #[.string p.1, .string p.2] 55)).heap.size := le_alloc hsz
            have NL := hide (HNX.out.alloc hsz (.cells #[.string p.1, .string p.2] 55))
            have hgr : g < wr.heap.size := Nat.lt_of_lt_of_le x1 (WB.out wr HNX.out).size
            have hgr2 : ¬ g = wr.heap.size := by omega
            have hpr : w.heap.size < wr.heap.size := Nat.lt_of_lt_of_le (by rw [S0.out]; exact Nat.lt_succ_self _) hsz
            have hpr2 : ¬ w.heap.size = wr.heap.size := by omega
            clear PL PS PM PD hl he
            have HSL : Hid (∀ w', Below (wr.alloc (.cells #[.string p.1, .string p.2] 55)).heap.size (wr.alloc (.cells #[.string p.1, .string p.2] 55)) w' → Below W0.heap.size W0 w' ∧ (w'.cell? ⟨g, j * 2 + 1, none⟩ = some (.slice sq.1 QL.length sq.2.2) ∧ w'.cell? ⟨w.heap.size, 0, none⟩ = some (.string p.1) ∧ w'.cell? ⟨w.heap.size, 1, none⟩ = some (.string p.2)) ∧ w'.cell? ⟨g, j * 2, none⟩ = some (.string QH)) := fun w' hb => by
              have b9 := NL.out.trans (hb.mono sL)
              exact ⟨b9, ⟨(HD.out w' b9).2.1, (CC.out w' b9).1, (CC.out w' b9).2⟩, (HD.out w' b9).1⟩
            simp only at PP
            go_wp2_with fail
            refine wp_region_held_drew (S := fun w' => w'.cell? ⟨g, j * 2 + 1, none⟩ = some (.slice sq.1 QL.length sq.2.2) ∧ w'.cell? ⟨w.heap.size, 0, none⟩ = some (.string p.1) ∧ w'.cell? ⟨w.heap.size, 1, none⟩ = some (.string p.2)) (by kernel_rfl) (HSL.out _ (Below.refl _ _).drew).2.1 (fun hHeld => ?_)
            refine wpAnyH_take (i := 0) (v := (.slice (some ⟨g, 0, none⟩) gs.length cv)) rfl (by kernel_rfl) (by kernel_rfl) (by kernel_rfl) (fun _ _ _ h => h) (Or.inl ⟨by rfl, ?_⟩) (by assumption) ?_
            · intro w' hSw
              (try dsimp only at hSw)
              go_simp <;> first | exact i64_in (by omega) (by omega) | exact u32_in (by omega) (by omega) | exact u32_add _ _ | (rw [Int.tmod_eq_emod_of_nonneg (by omega)]; omega) | (rw [Int.tdiv_eq_ediv_of_nonneg (by omega)]; omega) | omega
            (try simp only [Act.put, List.setIfInBounds_toArray, List.set_cons_zero, List.set_cons_succ])
            refine wpAnyH_take (i := 1) (v := (.int .i64 (j : Int))) rfl (by kernel_rfl) (by kernel_rfl) (by kernel_rfl) (fun _ _ _ h => h) (Or.inl ⟨by rfl, ?_⟩) (by assumption) ?_
            · intro w' hSw
              (try dsimp only at hSw)
              go_simp <;> first | exact i64_in (by omega) (by omega) | exact u32_in (by omega) (by omega) | exact u32_add _ _ | (rw [Int.tmod_eq_emod_of_nonneg (by omega)]; omega) | (rw [Int.tdiv_eq_ediv_of_nonneg (by omega)]; omega) | omega
            (try simp only [Act.put, List.setIfInBounds_toArray, List.set_cons_zero, List.set_cons_succ])
            refine wpAnyH_take (i := 2) (v := (.pointer (some ⟨g, j * 2, none⟩))) rfl (by kernel_rfl) (by kernel_rfl) (by kernel_rfl) (fun _ _ _ h => h) (Or.inl ⟨by rfl, ?_⟩) (by assumption) ?_
            · intro w' hSw
              (try dsimp only at hSw)
              go_simp <;> first | exact i64_in (by omega) (by omega) | exact u32_in (by omega) (by omega) | exact u32_add _ _ | (rw [Int.tmod_eq_emod_of_nonneg (by omega)]; omega) | (rw [Int.tdiv_eq_ediv_of_nonneg (by omega)]; omega) | omega
            (try simp only [Act.put, List.setIfInBounds_toArray, List.set_cons_zero, List.set_cons_succ])
            refine wpAnyH_take (i := 3) (v := (.pointer (some ⟨g, j * 2 + 1, none⟩))) rfl (by kernel_rfl) (by kernel_rfl) (by kernel_rfl) (fun _ _ _ h => h) (Or.inl ⟨by rfl, ?_⟩) (by assumption) ?_
            · intro w' hSw
              (try dsimp only at hSw)
              go_simp <;> first | exact i64_in (by omega) (by omega) | exact u32_in (by omega) (by omega) | exact u32_add _ _ | (rw [Int.tmod_eq_emod_of_nonneg (by omega)]; omega) | (rw [Int.tdiv_eq_ediv_of_nonneg (by omega)]; omega) | omega
            (try simp only [Act.put, List.setIfInBounds_toArray, List.set_cons_zero, List.set_cons_succ])
            refine wpAnyH_take (i := 4) (v := (.slice sq.1 QL.length sq.2.2)) rfl (by kernel_rfl) (by kernel_rfl) (by kernel_rfl) (fun _ _ _ h => h) (Or.inl ⟨by rfl, ?_⟩) (by assumption) ?_
            · intro w' hSw
              (try dsimp only at hSw)
              (obtain ⟨hS1, hS2, hS3⟩ := hSw; go_simp)
            (try simp only [Act.put, List.setIfInBounds_toArray, List.set_cons_zero, List.set_cons_succ])
            refine wpAnyH_take (i := 5) (v := (.agg #[.string p.1, .string p.2])) rfl (by kernel_rfl) (by kernel_rfl) (by kernel_rfl) (fun _ _ _ h => h) (Or.inl ⟨by rfl, ?_⟩) (by assumption) ?_
            · intro w' hSw
              (try dsimp only at hSw)
              (obtain ⟨hS1, hS2, hS3⟩ := hSw; go_simp)
            (try simp only [Act.put, List.setIfInBounds_toArray, List.set_cons_zero, List.set_cons_succ])
            refine wpAnyH_ready (rs := [6]) (by kernel_rfl) (by simp) ?_
            refine AllReadyH.cons rfl (fun K hK => ?_) AllReadyH.nil
            go_simp
            refine Calls.mono (PP.out _ (own_plies (s := (sq.1, QL.length, sq.2.2)) (HD.out _ NL.out.drew).2.2)) ?_
            rintro e w2 ⟨v2, rfl, o2, hb2⟩
            have B2 := (Below.refl (wr.alloc (.cells #[.string p.1, .string p.2] 55)).heap.size (wr.alloc (.cells #[.string p.1, .string p.2] 55))).drew.trans hb2
            refine hK.out _ _ (HSL.out _ B2).2.1 (fun hHeld => ?_)
            clear hK
            (try simp only [Act.put, List.setIfInBounds_toArray, List.set_cons_zero, List.set_cons_succ])
            refine wpAnyH_ready (rs := [7]) (by kernel_rfl) (by simp) ?_
            refine AllReadyH.cons rfl (fun K hK => ?_) AllReadyH.nil
            go_simp
            refine hK.out _ _ (HSL.out _ B2).2.1 (fun hHeld => ?_)
            clear hK
            (try simp only [Act.put, List.setIfInBounds_toArray, List.set_cons_zero, List.set_cons_succ])
            refine wpAnyH_done (by kernel_rfl) ?_ _
            obtain ⟨N2, _, y0⟩ := HSL.out w2 B2
            have s2 := N2.size
            obtain ⟨a2, c2, rfl⟩ := own_shape o2
            have O2 := hide (own_base (b2 := bp) o2 (by exact Nat.le_trans hbpr (Nat.le_of_lt (by simp))))
            have OW2 := hide (own_below OL.out B2)
            have RW2 := hide (fun t ht => own_below (RL.out t ht) B2)
            have HN2 := hide N2
            have HPL : Hid ((putP QL p).length = (putP QL p).length) := rfl
            clear o2 hb2 B2 N2 hHeld
            generalize putP QL p = PQ at *
            go_wp2_with (at_builtin; refine wpList_append_own _ rfl _ _ 24 rfl W0.heap.size 41 i0 (.agg #[.string ⟨#[]⟩, .slice none 0 0]) 2 40 Try.underlying24 hi hz0 hz1 hz2 rfl (by decide) _ _ _ rfl (OW2.out.alloc _) ⟨_, 0, none⟩ 1 1 (gcell [((h, PQ), .slice a2 PQ.length c2)]) rfl (g_one_len _ _ _) (cell_grp _ h PQ (.slice a2 PQ.length c2)) (g_one _ _ _ rfl) hm1 hm2 (le_alloc s2) ?_; intro v3 w3 o3 g3 n3; clear n3; have N3 := hide (app_below (n := 0) HN2.out s2 OW2.out g3); have GA3 := hide (GA.snoc (X := h) (L := PQ) OW2.out RW2.out O2.out ((Below.refl _ _).alloc (Nat.le_refl _) _) g3 o3); clear o3 g3; obtain ⟨y3, _, _⟩ := HD.out w3 N3.out)
            go_roundw
            case rel => exact ⟨j + 1, _, true, by omega, by go_num, rfl, PI.out, GA3.out, N3.out⟩
            case measure => simp [intOf]; omega
          · have PI := hide (PM.out HINV.out (lessS_no hl he))
            have hne : (QH.toList == h.toList) = false := by rw [eq_beq]; exact decide_eq_false (fun e => he e.symm)
            have hne2 : (QH.toList != h.toList) = true := by rw [bne, hne]; rfl
            have hne3 : (h.toList == QH.toList) = false := by rw [eq_beq]; exact decide_eq_false he
            clear PL PS PM PD hl he
            go_wp2_with (at_builtin; refine wpList_append_own _ rfl _ _ 24 rfl W0.heap.size 41 i0 (.agg #[.string ⟨#[]⟩, .slice none 0 0]) 2 40 Try.underlying24 hi hz0 hz1 hz2 rfl (by decide) _ _ _ rfl (HOWN.out.alloc _) ⟨_, 0, none⟩ 1 1 (gcell [((QH, QL), .slice sq.1 QL.length sq.2.2)]) rfl (g_one_len _ _ _) (cell_grp _ QH QL (.slice sq.1 QL.length sq.2.2)) (g_one _ _ _ rfl) hm1 hm2 (le_alloc hsz) ?_; intro v2 w2 o2 g2 n2; clear n2; have N2 := hide (app_below (n := 0) HNX.out hsz HOWN.out g2); have GA2 := hide (GA.snoc (X := QH) (L := QL) HOWN.out HROWS.out G2.out ((Below.refl _ wr).alloc (Nat.le_refl _) _) g2 o2); clear o2 g2)
            go_roundw
            case rel => exact ⟨j + 1, _, false, by omega, by go_num, rfl, PI.out, GA2.out, N2.out⟩
            case measure => simp [intOf]; omega
    · obtain rfl : j = gs.length := by omega
      clear hnx
      have hji : ¬ ((gs.length : Int) < (gs.length : Int)) := by omega
      cases db with
      | true =>
        have HEND : Hid (putG gs h p = ms.map Prod.fst) := (ginv_end HINV.out).trans (if_pos rfl)
        have GE := hide (⟨ms, rfl, own_base HOWN.out (show w.heap.size ≤ W0.heap.size by rw [S0.out]; exact Nat.le_succ _), HROWS.out⟩ : GA wr w.heap.size bp _ (ms.map Prod.fst))
        go_wp2_with fail
        go_ret
        exact ⟨_, rfl, by rw [HEND.out]; exact GE.out, WB.out _ HNX.out⟩
      | false =>
        have HEND : Hid (putG gs h p = ms.map Prod.fst ++ [(h, [p])]) := (ginv_end HINV.out).trans (if_neg (by simp))
        have OL := hide (HOWN.out.alloc (.cells #[.string p.1, .string p.2] 55))
        have RL := hide (fun t ht => (HROWS.out t ht).alloc (.cells #[.string p.1, .string p.2] 55))
        have LP := hide (lit_pair (w := wr) p hbpr)
        have sL : W0.heap.size ≤ (wr.alloc (.cells #[.string p.1, .string p.2] 55)).heap.size := le_alloc hsz
        have NL := hide (HNX.out.alloc hsz (.cells #[.string p.1, .string p.2] 55))
        have hpr : w.heap.size < wr.heap.size := Nat.lt_of_lt_of_le (by rw [S0.out]; exact Nat.lt_succ_self _) hsz
        have hpr2 : ¬ w.heap.size = wr.heap.size := by omega
        go_wp2_with (at_builtin; refine wpList_append_own _ rfl _ _ 24 rfl W0.heap.size 41 i0 (.agg #[.string ⟨#[]⟩, .slice none 0 0]) 2 40 Try.underlying24 hi hz0 hz1 hz2 rfl (by decide) _ _ _ rfl (OL.out.alloc _) ⟨_, 0, none⟩ 1 1 (gcell [((h, [p]), .slice (some ⟨wr.heap.size, 0, none⟩) 1 1)]) rfl (g_one_len _ _ _) (cell_grp2 _ _ h [p] (.slice (some ⟨wr.heap.size, 0, none⟩) 1 1)) (g_one _ _ _ rfl) hm1 hm2 (le_alloc sL) ?_; intro v2 w2 o2 g2 n2; clear n2; have N2 := hide (app_below (n := 0) NL.out sL OL.out g2); have GA2 := hide (GA.snoc (X := h) (L := [p]) OL.out RL.out LP.out ((Below.refl _ _).alloc (Nat.le_refl _) _) g2 o2); clear o2 g2)
        go_ret
        exact ⟨_, rfl, by rw [HEND.out]; obtain ⟨a, b, c, e⟩ := GA2.out; exact ⟨a, b, own_base c (by rw [S0.out]; exact Nat.le_succ _), e⟩, WB.out _ N2.out⟩
end Go.Proofs.Ytfmmfophdfjopaa
namespace Go.Proofs.Ytfmmfophdfjopaa
open Go.RowKit
end Go.Proofs.Ytfmmfophdfjopaa
namespace Go.Proofs.Ytfmmfophdfjopaa
open Go.RowKit
theorem pf_first {ps : List KV} {k : ByteArray} {j : Nat} (hr : Rises ps.length (fun t => (ps.getD t default).1)) (hj : j < ps.length) (e : ps[j].1 = k) : pairFor ps k = some ps[j] := pairFor_some hr hj (by rw [getD_at hj]; exact e)
theorem pf_never {ps : List KV} {k : ByteArray} (h : ∀ t (ht : t < ps.length), ps[t].1 ≠ k) : pairFor ps k = none := pairFor_none (fun t ht => by rw [getD_at ht]; exact h t ht)
end Go.Proofs.Ytfmmfophdfjopaa
namespace Go.Proofs.Ytfmmfophdfjopaa
open Go.RowKit
end Go.Proofs.Ytfmmfophdfjopaa
namespace Go.Proofs.Ytfmmfophdfjopaa
open Go.RowKit
abbrev PU := ByteArray × ByteArray × ByteArray
def mkOne (k : Nat) (l : List GR) (p : PU) : List GR := putG l (fitB p.1 k) (kyd p.2.1, vld p.2.2)
def mkStep (k : Nat) (l : List GR) (p : PU) : List GR := if (encD (mkOne k l p)).length ≤ 65536 ∧ fullL (mkOne k l p) ≤ 512 then mkOne k l p else l
def mkG (k : Nat) (ps : List PU) : List GR := ps.foldl (mkStep k) []
/-- groups that are made -/
def MkOk (k : Nat) (l : List GR) : Prop := OkG k l ∧ (encD l).length ≤ 65536 ∧ fullL l ≤ 512
theorem encD_two (l : List GR) : 2 * l.length ≤ (encD l).length := by
  induction l with
  | nil => simp [encD]
  | cons a r ih =>
    unfold encD at ih ⊢
    rw [List.flatMap_cons, List.length_append, recL_len, List.length_cons]
    omega
theorem kv_in (p : PU) : 1 ≤ (kyd p.2.1).size ∧ (kyd p.2.1).size ≤ 255 ∧ (vld p.2.2).size ≤ 4096 := ⟨(kyd_size _).1, (kyd_size _).2, vld_size _⟩
theorem mkOne_ok {k : Nat} {l : List GR} (h : MkOk k l) (p : PU) : OkG k (mkOne k l p) := h.1.put (fitB_size _ _) (kv_in p)
theorem mkStep_ok {k : Nat} {l : List GR} (h : MkOk k l) (p : PU) : MkOk k (mkStep k l p) := by
  unfold mkStep
  by_cases c : (encD (mkOne k l p)).length ≤ 65536 ∧ fullL (mkOne k l p) ≤ 512
  · rw [if_pos c]; exact ⟨mkOne_ok h p, c.1, c.2⟩
  · rw [if_neg c]; exact h
theorem mk_nil (k : Nat) : MkOk k [] := ⟨⟨by simp [UpG], fun g hg => by cases hg⟩, by simp [encD], by simp [fullL]⟩
theorem mkG_take (k : Nat) (ps : List PU) (j : Nat) (h : j < ps.length) : mkG k (ps.take (j + 1)) = mkStep k (mkG k (ps.take j)) ps[j] := by
  unfold mkG
  rw [List.take_succ_eq_append_getElem h, List.foldl_append]; rfl
theorem mkG_ok (k : Nat) (ps : List PU) : MkOk k (mkG k ps) := by
  have : ∀ (ps : List PU) l, MkOk k l → MkOk k (ps.foldl (mkStep k) l) := by
    intro ps
    induction ps with
    | nil => intro l h; exact h
    | cons a r ih => intro l h; exact ih _ (mkStep_ok h a)
  exact this ps [] (mk_nil k)
theorem MkOk.len {k : Nat} {l : List GR} (h : MkOk k l) : l.length ≤ 32768 := by
  have := encD_two l
  have := h.2.1
  omega
theorem MkOk.pairs {k : Nat} {l : List GR} (h : MkOk k l) : ∀ g ∈ l, g.2.length ≤ 512 := fun _ hg => Nat.le_trans (fullL_mem hg) h.2.2
theorem MkOk.up {k : Nat} {l : List GR} (h : MkOk k l) : UpG l ∧ ∀ g ∈ l, UpP g.2 := ⟨h.1.1, fun g hg => (h.1.2 g hg).2.2.1⟩
theorem MkOk.enc {k : Nat} {l : List GR} (hk : 1 ≤ k ∧ k ≤ 16) (h : MkOk k l) : egE (k : Int) l = 0 := okG_enc hk h.1 h.2.2 h.2.1
theorem sizeL_bound {l : List KV} (h : ∀ p ∈ l, 1 ≤ p.1.size ∧ p.1.size ≤ 255 ∧ p.2.size ≤ 4096) : sizeL l ≤ l.length * 4357 := by
  induction l with
  | nil => simp [sizeL]
  | cons a r ih =>
    have := ih (fun p hp => h p (List.mem_cons_of_mem _ hp))
    have := h a List.mem_cons_self
    unfold sizeL
    rw [List.length_cons]
    omega
theorem encD_bound {l : List GR} {n : Nat} (h : ∀ g ∈ l, sizeL g.2 ≤ n) : (encD l).length ≤ l.length * (2 + n) := by
  induction l with
  | nil => simp [encD]
  | cons a r ih =>
    have h1 := ih (fun p hp => h p (List.mem_cons_of_mem _ hp))
    have := h a List.mem_cons_self
    unfold encD at h1 ⊢
    rw [List.flatMap_cons, List.length_append, recL_len, List.length_cons, Nat.add_mul]
    omega
theorem mkOne_len {k : Nat} {l : List GR} (h : MkOk k l) (p : PU) : (mkOne k l p).length ≤ 65537 ∧ (∀ g ∈ mkOne k l p, g.2.length ≤ 513) ∧ (encD (mkOne k l p)).length ≤ 1099511627776 := by
  have h1 : (mkOne k l p).length ≤ 32769 := by
    have := putG_len l (fitB p.1 k) (kyd p.2.1, vld p.2.2)
    have := h.len
    unfold mkOne
    omega
  have h2 : ∀ g ∈ mkOne k l p, g.2.length ≤ 513 := by
    intro g hg
    rcases putG_mem hg with ⟨_, e⟩ | e
    · rcases e with e | ⟨g', hg', _, e⟩
      · rw [e]; simp
      · rw [e]
        have := putP_len g'.2 (kyd p.2.1, vld p.2.2)
        have := h.pairs g' hg'
        omega
    · have := h.pairs g e
      omega
  refine ⟨by omega, h2, ?_⟩
  have h3 := encD_bound (l := mkOne k l p) (n := 2235141) (fun g hg => by
    have := sizeL_bound ((mkOne_ok h p).2 g hg).2.2.2
    have := h2 g hg
    omega)
  have : (mkOne k l p).length * (2 + 2235141) ≤ 32769 * (2 + 2235141) := Nat.mul_le_mul_right _ h1
  omega
/-- puts in memory -/
def PutsAt (w : World) (v : Value) (ps : List PU) : Prop := ∃ ao b off cap, v = .slice ao ps.length cap ∧ (0 < ps.length → ao = some ⟨b, off, none⟩) ∧ (0 < ps.length → b < w.heap.size) ∧
    ∀ i (hi : i < ps.length), w.cell? ⟨b, off + i * 3, none⟩ = some (.string ps[i].1) ∧ w.cell? ⟨b, off + i * 3 + 1, none⟩ = some (.string ps[i].2.1) ∧ w.cell? ⟨b, off + i * 3 + 2, none⟩ = some (.string ps[i].2.2)
theorem PutsAt.below {w w' : World} {v : Value} {ps : List PU} (h : PutsAt w v ps) (hb : Below w.heap.size w w') : PutsAt w' v ps := by
  obtain ⟨ao, b, off, cap, h1, h2, h3, h4⟩ := h
  refine ⟨ao, b, off, cap, h1, h2, fun z => Nat.lt_of_lt_of_le (h3 z) hb.size, fun i hi => ?_⟩
  have hz := h3 (by omega)
  rw [hb.cell (by exact hz), hb.cell (by exact hz), hb.cell (by exact hz)]
  exact h4 i hi
end Go.Proofs.Ytfmmfophdfjopaa
namespace Go.Proofs.Ytfmmfophdfjopaa
open Go.RowKit
theorem eg_shape {kn : Nat} {gs : List GR} (h : egE (kn : Int) gs = 0) : egI (kn : Int) gs = strOf (encN gs gs.length) ∧ egD (kn : Int) gs = strOf (encD gs) ∧ (egI (kn : Int) gs).size = gs.length * (kn + 4) ∧ (egD (kn : Int) gs).size = (encD gs).length := by
  obtain ⟨hk, hin, hD⟩ := eg_inv h
  have eI : egI (kn : Int) gs = strOf (encN gs gs.length) := by unfold egI; rw [if_pos h]
  have eD : egD (kn : Int) gs = strOf (encD gs) := by unfold egD; rw [if_pos h]
  have hz : ∀ i (hi : i < gs.length), gs[i].1.size = kn := fun i hi => by have := (hin i hi).1; omega
  exact ⟨eI, eD, by rw [eI, strOf_size, encN_len hz _ (Nat.le_refl _)], by rw [eD, strOf_size]⟩
theorem join_entry {kn : Nat} {gs : List GR} (h : egE (kn : Int) gs = 0) {i : Nat} (hi : i < gs.length) : rdeR (kn : Int) (egI (kn : Int) gs) (i : Int) = .returned (.tuple #[.string gs[i].1, .int .i64 ((encD (gs.take i)).length : Int), .int .i64 0]) := by
  obtain ⟨hk, hin, hD⟩ := eg_inv h
  obtain ⟨eI, eD, sI, sD⟩ := eg_shape h
  have hz : ∀ i (hi : i < gs.length), gs[i].1.size = kn := fun i hi => by have := (hin i hi).1; omega
  obtain ⟨r, hr⟩ : ∃ r, (strOf (encN gs gs.length)).data.toList.drop (i * (kn + 4)) = gs[i].1.data.toList ++ (dig 4 (encD (gs.take i)).length ++ r) := by
    obtain ⟨r, hr⟩ := encN_pre gs gs.length (i + 1) (by omega)
    refine ⟨r, ?_⟩
    show (encN gs gs.length).drop (i * (kn + 4)) = _
    rw [hr, encN_step gs i hi, List.append_assoc, List.append_assoc, List.drop_left' (encN_len hz i (by omega))]
  have hH : rdeH kn (egI (kn : Int) gs) i = gs[i].1 := by
    rw [eI]
    refine ba_ext ?_
    unfold rdeH
    rw [slice_str, hr, show i * (kn + 4) + kn - i * (kn + 4) = kn by omega, List.take_left' (by rw [size_data, hz i hi])]
  have hO : rdeO kn (egI (kn : Int) gs) i = (encD (gs.take i)).length := by
    rw [eI]
    have hle := encD_le gs i
    unfold rdeO
    rw [← List.drop_drop, hr, List.drop_left' (by rw [size_data, hz i hi]), List.take_left' (dig_len _ _), val_dig _ _ (by omega)]
  rw [← rde_good hk (by rw [sI, Int.toNat_natCast]; exact Nat.mul_mod_left _ _) ⟨by omega, by rw [sI, Int.toNat_natCast, Int.toNat_natCast, Nat.mul_div_cancel _ (by omega)]; exact hi⟩, Int.toNat_natCast, Int.toNat_natCast, hH, hO]
theorem join_last {kn : Nat} {gs : List GR} (h : egE (kn : Int) gs = 0) : rdeR (kn : Int) (egI (kn : Int) gs) (gs.length : Int) = .returned (.tuple #[.string ⟨#[]⟩, .int .i64 0, .int .i64 1]) := by
  obtain ⟨hk, hin, hD⟩ := eg_inv h
  obtain ⟨eI, eD, sI, sD⟩ := eg_shape h
  refine (rde_arg hk (by rw [sI, Int.toNat_natCast]; exact Nat.mul_mod_left _ _) ?_).symm
  rw [sI, Int.toNat_natCast, Int.toNat_natCast, Nat.mul_div_cancel _ (by omega)]
  omega
theorem encD_split {gs : List GR} {j : Nat} (hj : j < gs.length) : encD gs = encD (gs.take j) ++ (recL gs[j].2 ++ encD (gs.drop (j + 1))) := by
  have : gs = gs.take j ++ gs[j] :: gs.drop (j + 1) := by rw [← List.drop_eq_getElem_cons hj, List.take_append_drop]
  refine (congrArg encD this).trans ?_
  unfold encD
  rw [List.flatMap_append, List.flatMap_cons]
theorem join_record {kn : Nat} {gs : List GR} (h : egE (kn : Int) gs = 0) {j : Nat} (hj : j < gs.length) : (rrE (egD (kn : Int) gs) ((encD (gs.take j)).length : Int) = 0 ∧ rrL (egD (kn : Int) gs) ((encD (gs.take j)).length : Int) = gs[j].2 ∧ rrN (egD (kn : Int) gs) ((encD (gs.take j)).length : Int) = ((encD (gs.take (j + 1))).length : Int)) ∧
    (egD (kn : Int) gs).extract (encD (gs.take j)).length (encD (gs.take (j + 1))).length = recS gs[j].2 := by
  obtain ⟨hk, hin, hD⟩ := eg_inv h
  obtain ⟨eI, eD, sI, sD⟩ := eg_shape h
  have herr := (hin j hj).2.1
  obtain ⟨fl, fp, fz, fs⟩ := fine herr
  have hle := encD_le gs j
  have hdr : (encD gs).drop (encD (gs.take j)).length = recL gs[j].2 ++ encD (gs.drop (j + 1)) := by rw [encD_split hj, List.drop_left' rfl]
  have hsp : spellAt (egD (kn : Int) gs) (encD (gs.take j)).length = some (gs[j].2, (encD (gs.take j)).length + (recL gs[j].2).length) := by
    rw [eD]
    refine spell_there (rest := encD (gs.drop (j + 1))) ?_ (by rw [strOf_size]; omega) (by omega) (fun i hi => ⟨by have := (fs i hi).1; omega, by have := (fs i hi).2; omega⟩)
    exact hdr
  have e1 : (encD (gs.take (j + 1))).length = (encD (gs.take j)).length + (recL gs[j].2).length := by rw [encD_take gs j hj, List.length_append]
  have hs1 := (spL_some hsp).1
  have hs2 := (spL_some hsp).2
  refine ⟨?_, ?_⟩
  · have g := rr_good (d := egD (kn : Int) gs) (a := ((encD (gs.take j)).length : Int)) ⟨by omega, by rw [sD]; omega⟩ (by rw [Int.toNat_natCast, hs1]; exact herr)
    rw [Int.toNat_natCast, hs1, hs2] at g
    rw [e1]
    exact g
  · rw [recS_ok herr]
    refine ba_ext ?_
    rw [slice_str, eD]
    show ((encD gs).drop _).take _ = recL gs[j].2
    rw [hdr, e1, show (encD (gs.take j)).length + (recL gs[j].2).length - (encD (gs.take j)).length = (recL gs[j].2).length by omega, List.take_left' rfl]
end Go.Proofs.Ytfmmfophdfjopaa
