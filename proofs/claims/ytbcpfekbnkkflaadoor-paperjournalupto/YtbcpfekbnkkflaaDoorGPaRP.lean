import Derived.Test.YtbcpfekbnkkflaaDoorGPaReads
import Derived.Test.YtbcpfekbnkkflaaDoorGPaSeal
namespace Go.Proofs.YtbcpfekbnkkflaaDoor
open Go.RowKit Go.Shelf
/-- the place behind the rows -/
def rpA (title tx : ByteArray) (ts : List FD) : Nat := title.size + tabN ts (tx.data.toList.drop title.size)
def rpForm (title tx : ByteArray) (ts : List FD) : Bool := pfx title tx.data.toList && tabOk ts (tx.data.toList.drop title.size)
def rpE (title tx : ByteArray) (ts : List FD) (ok : Bool) : Int := if rpForm title tx ts then (if clsE tx (rpA title tx ts) = 0 then (if ok then 0 else 42) else clsE tx (rpA title tx ts)) else 40
def rpVs (title tx : ByteArray) (ts : List FD) : List Val := tabVs ts (tx.data.toList.drop title.size)
theorem ret_i64 {a b : Int} (h : a = b) : Ending.returned (.int .i64 b) = .returned (.int .i64 a) := by rw [h]
set_option maxHeartbeats 4000000 in
set_option maxRecDepth 100000 in
theorem readPaper_any (title tx : ByteArray) (b cap rb : Nat) (ts : List FD) (St : List Val → World → Prop) (w : World) (ok : StW w.heap.size rb St) (hlen : ts.length ≤ 64) (hT : ∀ vs w, St vs w → TabAt b w ts ∧ b < w.heap.size)
    (hset : ∀ i (h : i < ts.length) vs, vs.length = i → SetsAs ts[i] rb vs St) (hen : ∀ i (h : i < ts.length), Enters Tryd.prog ts[i].sf) (hrd : ∀ i (h : i < ts.length), ReadsAs ts[i].sh)
    (hge : ∀ i (h : i < ts.length), Enters Tryd.prog ts[i].gf) (nv : Nat → Int) (tv : Nat → ByteArray) (okf : Nat → Bool) (hgets : ∀ w', St (rpVs title tx ts) w' → ∀ i (h : i < ts.length), GetsAt w' ts[i] (nv i) (tv i)) (hal : ∀ i (h : i < ts.length), AllowsIs ts[i] (nv i) (tv i) (okf i))
    (hs : St [] w) (htx : tx.size < 9223372036854775808) (hT4 : ∀ vs w, St vs w → Tab4 0 w) :
    Calls Tryd.prog 55 #[.string tx, .string title, .slice (some ⟨b, 0, none⟩) ts.length cap] w fun e w' => e = .returned (.int .i64 (rpE title tx ts (allB ts.length okf))) ∧ (rpE title tx ts (allB ts.length okf) = 0 → St (rpVs title tx ts) w') ∧ ∃ vs, St vs w' := by
  obtain ⟨W0, hW0⟩ : ∃ W0, W0 = w.alloc (.cells #[.string tx, .int .i64 0] 96) := ⟨_, rfl⟩
  have b0 : Below w.heap.size w W0 := by rw [hW0]; exact (Below.refl _ w).alloc (Nat.le_refl _) _
  have r0 : RdAt w.heap.size tx 0 W0 := by rw [hW0]; exact ⟨by simp, by simp, by simp⟩
  have s0 := ok.kb _ _ _ hs (Kb.of b0)
  have C1 := hide (skip_any w.heap.size tx title 0 W0 r0 (Nat.zero_le _) htx)
  rw [List.drop_zero] at C1
  obtain ⟨RE, hRE⟩ : ∃ RE, RE = rpE title tx ts (allB ts.length okf) := ⟨_, rfl⟩
  rw [← hRE]
  have KB := hide ok.kb
  have S0 := hide s0
  cases hp : pfx title tx.data.toList with
  | false =>
    have e1 : Hid (RE = 40) := by show _ = _; rw [hRE]; unfold rpE rpForm; rw [hp]; rfl
    rw [hp] at C1
    clear hRE ok hT hset hen hrd hge hgets hal hs s0 r0 hT4 b0
    go_enter Tryd.func55, Tryd.ntmps55
    go_wp2_with fail
    rw [← hW0]
    clear hW0
    refine Calls.mono C1.out ?_
    rintro e w1 ⟨rfl, r1, k1⟩
    have S1 := hide (KB.out _ _ _ S0.out k1)
    clear r1 k1 C1
    go_wp2_with fail
    go_ret
    refine ⟨ret_i64 e1.out, ?_, _, S1.out⟩
    intro h; rw [e1.out] at h; cases h
  | true =>
    rw [hp] at C1
    have hA : skA title tx 0 = title.size := by unfold skA; rw [List.drop_zero, hp]; simp
    rw [hA] at C1
    have htl : title.size ≤ tx.size := by have := pfx_le hp; rwa [size_data] at this
    have C2 := hide (fun w' (h1 : St [] w') (h2 : RdAt w.heap.size tx title.size w') => read_any ts b cap w.heap.size rb tx title.size St ok hlen (fun vs w h => (hT vs w h).1) hset hen hrd w' h1 h2 htl htx)
    cases hf : tabOk ts (tx.data.toList.drop title.size) with
    | false =>
      have e1 : Hid (RE = 40) := by show _ = _; rw [hRE]; unfold rpE rpForm; rw [hp, hf]; rfl
      rw [hf] at C2
      clear hRE ok hT hset hen hrd hge hgets hal hs s0 r0 hT4 b0
      go_enter Tryd.func55, Tryd.ntmps55
      go_wp2_with fail
      rw [← hW0]
      clear hW0
      refine Calls.mono C1.out ?_
      rintro e w1 ⟨rfl, r1, k1⟩
      have S1 := hide (KB.out _ _ _ S0.out k1)
      have D2 := hide (C2.out w1 S1.out r1)
      clear r1 k1 C1 C2
      go_wp2_with fail
      refine Calls.mono D2.out ?_
      rintro e w2 ⟨rfl, d1, vs2, a2, s2, r2⟩
      have S2 := hide s2
      clear d1 s2 r2 D2
      go_wp2_with fail
      go_ret
      refine ⟨ret_i64 e1.out, ?_, _, S2.out⟩
      intro h; rw [e1.out] at h; cases h
    | true =>
      have hN := tabN_le _ _ hf
      rw [List.length_drop, size_data] at hN
      have haA : rpA title tx ts ≤ tx.size := by unfold rpA; omega
      have E1 : Hid (RE = (if clsE tx (rpA title tx ts) = 0 then (if allB ts.length okf then 0 else 42) else clsE tx (rpA title tx ts))) := by show _ = _; rw [hRE]; unfold rpE rpForm; rw [hp, hf]; rfl
      have C3 := hide (fun w' (h1 : RdAt w.heap.size tx (rpA title tx ts) w') (h2 : Tab4 0 w') => close_any w.heap.size tx (rpA title tx ts) w' h1 haA htx h2)
      have C4 := hide (fun w' (h1 : St (rpVs title tx ts) w') => fit_any b cap ts w' nv tv okf (by omega) (hT _ _ h1).1 (hT _ _ h1).2 hge (hgets w' h1) hal)
      have T0 := hide hT4
      have HT := hide (fun vs w h => hT vs w h)
      rw [hf] at C2
      have HV : Hid (tabVs ts (tx.data.toList.drop title.size) = rpVs title tx ts ∧ title.size + tabN ts (tx.data.toList.drop title.size) = rpA title tx ts) := ⟨rfl, rfl⟩
      rw [HV.out.1, HV.out.2] at C2
      clear hRE ok hT hset hen hrd hge hgets hal hs s0 r0 hT4 b0 hN HV
      generalize rpVs title tx ts = VS at *
      generalize rpA title tx ts = A at *
      generalize allB ts.length okf = AB at *
      by_cases hcl : clsE tx A = 0
      · rw [hcl] at C3 E1
        cases hAB : AB with
        | true =>
          have e1 : Hid (RE = 0) := by show _ = _; rw [E1.out, hAB]; rfl
          rw [hAB] at C4
          go_enter Tryd.func55, Tryd.ntmps55
          go_wp2_with fail
          rw [← hW0]
          clear hW0
          refine Calls.mono C1.out ?_
          rintro e w1 ⟨rfl, r1, k1⟩
          have S1 := hide (KB.out _ _ _ S0.out k1)
          have D2 := hide (C2.out w1 S1.out r1)
          clear r1 k1 C1 C2
          go_wp2_with fail
          refine Calls.mono D2.out ?_
          rintro e w2 ⟨rfl, d1, d2⟩
          obtain ⟨s2, r2⟩ := d1 trivial
          have S2 := hide s2
          have D3 := hide (C3.out w2 r2 (T0.out _ _ s2))
          clear d1 d2 s2 r2 D2 C3
          go_wp2_with fail
          refine Calls.mono D3.out ?_
          rintro e w3 ⟨rfl, k3⟩
          have S3 := hide (KB.out _ _ _ S2.out k3)
          have D4 := hide (C4.out w3 S3.out)
          clear k3 D3 C4
          go_wp2_with fail
          refine Calls.mono D4.out ?_
          rintro e w4 ⟨rfl, b4⟩
          have S4 := hide (KB.out _ _ _ S3.out (Kb.of b4))
          clear b4 D4
          go_wp2_with fail
          go_ret
          refine ⟨ret_i64 e1.out, ?_, _, S4.out⟩
          intro h; exact S4.out
        | false =>
          have e1 : Hid (RE = 42) := by show _ = _; rw [E1.out, hAB]; rfl
          rw [hAB] at C4
          go_enter Tryd.func55, Tryd.ntmps55
          go_wp2_with fail
          rw [← hW0]
          clear hW0
          refine Calls.mono C1.out ?_
          rintro e w1 ⟨rfl, r1, k1⟩
          have S1 := hide (KB.out _ _ _ S0.out k1)
          have D2 := hide (C2.out w1 S1.out r1)
          clear r1 k1 C1 C2
          go_wp2_with fail
          refine Calls.mono D2.out ?_
          rintro e w2 ⟨rfl, d1, d2⟩
          obtain ⟨s2, r2⟩ := d1 trivial
          have S2 := hide s2
          have D3 := hide (C3.out w2 r2 (T0.out _ _ s2))
          clear d1 d2 s2 r2 D2 C3
          go_wp2_with fail
          refine Calls.mono D3.out ?_
          rintro e w3 ⟨rfl, k3⟩
          have S3 := hide (KB.out _ _ _ S2.out k3)
          have D4 := hide (C4.out w3 S3.out)
          clear k3 D3 C4
          go_wp2_with fail
          refine Calls.mono D4.out ?_
          rintro e w4 ⟨rfl, b4⟩
          have S4 := hide (KB.out _ _ _ S3.out (Kb.of b4))
          clear b4 D4
          go_wp2_with fail
          go_ret
          refine ⟨ret_i64 e1.out, ?_, _, S4.out⟩
          intro h; rw [e1.out] at h; cases h
      · have e1 : Hid (RE = clsE tx A) := by show _ = _; rw [E1.out, if_neg hcl]
        go_enter Tryd.func55, Tryd.ntmps55
        go_wp2_with fail
        rw [← hW0]
        clear hW0
        refine Calls.mono C1.out ?_
        rintro e w1 ⟨rfl, r1, k1⟩
        have S1 := hide (KB.out _ _ _ S0.out k1)
        have D2 := hide (C2.out w1 S1.out r1)
        clear r1 k1 C1 C2
        go_wp2_with fail
        refine Calls.mono D2.out ?_
        rintro e w2 ⟨rfl, d1, d2⟩
        obtain ⟨s2, r2⟩ := d1 trivial
        have S2 := hide s2
        have D3 := hide (C3.out w2 r2 (T0.out _ _ s2))
        clear d1 d2 s2 r2 D2 C3
        go_wp2_with fail
        refine Calls.mono D3.out ?_
        rintro e w3 ⟨rfl, k3⟩
        have S3 := hide (KB.out _ _ _ S2.out k3)
        clear k3 D3 C4
        go_wp2_with fail
        go_ret
        refine ⟨ret_i64 e1.out, ?_, _, S3.out⟩
        intro h; rw [e1.out] at h; exact absurd h hcl
end Go.Proofs.YtbcpfekbnkkflaaDoor
namespace Go.Proofs.YtbcpfekbnkkflaaDoor
open Go.RowKit Go.Shelf
def FD.sig (f : FD) : ByteArray × Int × ByteArray := (f.wd, f.sh, f.en)
theorem fld_sig {f g : FD} (h : f.sig = g.sig) (l : List UInt8) : fldOk f l = fldOk g l ∧ fldN f l = fldN g l ∧ fldV f l = fldV g l := by
  unfold FD.sig at h
  simp only [Prod.mk.injEq] at h
  obtain ⟨h1, h2, h3⟩ := h
  have hw : fldW f l = fldW g l := by unfold fldW; rw [h1]
  refine ⟨?_, ?_, ?_⟩
  · unfold fldOk; rw [hw, h1, h2, h3]
  · unfold fldN; rw [hw, h1, h3]
  · unfold fldV; rw [hw, h2]
theorem tab_sig : ∀ (xs ys : List FD) (l : List UInt8), xs.map FD.sig = ys.map FD.sig → tabOk xs l = tabOk ys l ∧ tabN xs l = tabN ys l ∧ tabVs xs l = tabVs ys l
  | [], [], _, _ => ⟨rfl, rfl, rfl⟩
  | [], _ :: _, _, h => by simp at h
  | _ :: _, [], _, h => by simp at h
  | f :: r, g :: s, l, h => by
    simp only [List.map_cons, List.cons.injEq] at h
    obtain ⟨a1, a2, a3⟩ := fld_sig h.1 l
    obtain ⟨b1, b2, b3⟩ := tab_sig r s (l.drop (fldN g l)) h.2
    refine ⟨?_, ?_, ?_⟩
    · show (fldOk f l && tabOk r (l.drop (fldN f l))) = (fldOk g l && tabOk s (l.drop (fldN g l)))
      rw [a1, a2, b1]
    · show fldN f l + tabN r (l.drop (fldN f l)) = fldN g l + tabN s (l.drop (fldN g l))
      rw [a2, b2]
    · show fldV f l :: tabVs r (l.drop (fldN f l)) = fldV g l :: tabVs s (l.drop (fldN g l))
      rw [a3, a2, b3]
theorem rp_sig {xs ys : List FD} (title tx : ByteArray) (ok : Bool) (h : xs.map FD.sig = ys.map FD.sig) : rpE title tx xs ok = rpE title tx ys ok ∧ rpVs title tx xs = rpVs title tx ys := by
  obtain ⟨h1, h2, h3⟩ := tab_sig xs ys (tx.data.toList.drop title.size) h
  refine ⟨?_, h3⟩
  unfold rpE rpForm rpA
  rw [h1, h2]
/-- the i-th number of what was read -/
def vN (vs : List Val) (i : Nat) : Int := (vs[i]?.map (·.1)).getD 0
theorem vN_app (vs : List Val) (v : Val) (i : Nat) : vN (vs ++ [v]) i = if i = vs.length then v.1 else vN vs i := by
  unfold vN
  rcases Nat.lt_trichotomy i vs.length with h | h | h
  · rw [List.getElem?_append_left h, if_neg (by omega)]
  · rw [List.getElem?_append_right (by omega), if_pos h, h]; simp
  · rw [List.getElem?_eq_none (by simp; omega), if_neg (by omega), List.getElem?_eq_none (by omega)]
structure PtrSt (w0 : World) (rb bx tb : Nat) (vs : List Val) (w : World) : Prop where
  old : Below w0.heap.size w0 w
  tab : TabAt tb w (ptrFDs bx)
  tlt : tb < w.heap.size
  box : w.cell? ⟨bx, 0, none⟩ = some (.pointer (some ⟨rb, 0, none⟩))
  rcd : PtrAt w rb (vN vs 0) (vN vs 1) (vN vs 2) (vN vs 3)
  frz : ∀ o, o < 4 → w.frozen? ⟨rb, o, none⟩ = false
theorem PtrAt.lt {w : World} {rb : Nat} {c p e s : Int} (h : PtrAt w rb c p e s) : rb < w.heap.size := lt_of_cell? h.1
theorem PtrAt.kb {w w' : World} {R rb : Nat} {c p e s : Int} (h : PtrAt w rb c p e s) (hk : Kb R w w') (hn : rb ≠ R) : PtrAt w' rb c p e s := by
  have hl := h.lt
  obtain ⟨h0, h1, h2, h3⟩ := h
  exact ⟨by rw [hk.cell hl hn]; exact h0, by rw [hk.cell hl hn]; exact h1, by rw [hk.cell hl hn]; exact h2, by rw [hk.cell hl hn]; exact h3⟩
theorem PtrSt.ok {w0 : World} {R rb bx tb : Nat} (hR : w0.heap.size ≤ R) (h1 : R ≠ rb) (h2 : bx ≠ R) (h3 : tb ≠ R) : StW R rb (PtrSt w0 rb bx tb) :=
  ⟨fun vs w w' h k => ⟨k.below h.old hR h.old.size, h.tab.kb h.tlt h3 k, Nat.lt_of_lt_of_le h.tlt k.size, by rw [k.cell (lt_of_cell? h.box) h2]; exact h.box, h.rcd.kb k h1.symm, fun o ho => by rw [k.frozen h.rcd.lt h1.symm]; exact h.frz o ho⟩, fun vs w h => h.rcd.lt, h1⟩
theorem ptrSet {w0 w : World} {rb bx tb : Nat} {vs : List Val} {v : Val} {off : Nat} (h : PtrSt w0 rb bx tb vs w) (hl : w0.heap.size ≤ rb) (hb : bx ≠ rb) (ht : tb ≠ rb) (ho : off = vs.length) (ho4 : off < 4) : PtrSt w0 rb bx tb (vs ++ [v]) (setW w rb off (.int .i64 v.1) v.1 v.2) ∧ Kb rb w (setW w rb off (.int .i64 v.1) v.1 v.2) := by
  have k := setW_kb w rb off (.int .i64 v.1) v.1 v.2
  refine ⟨⟨k.below h.old hl h.old.size, h.tab.kb h.tlt ht k, Nat.lt_of_lt_of_le h.tlt k.size, setW_other h.box (.inl hb), ?_, fun o ho => by rw [setW_frozen h.rcd.lt]; exact h.frz o ho⟩, k⟩
  obtain ⟨q0, q1, q2, q3⟩ := h.rcd
  have e : ∀ i, vN (vs ++ [v]) i = if i = off then v.1 else vN vs i := fun i => by rw [vN_app, ho]
  have step : ∀ i (n : Int), w.cell? ⟨rb, i, none⟩ = some (.int .i64 n) → (setW w rb off (.int .i64 v.1) v.1 v.2).cell? ⟨rb, i, none⟩ = some (.int .i64 (if i = off then v.1 else n)) := fun i n hc => by
    by_cases hi : i = off
    · subst hi; rw [if_pos rfl]; exact setW_same hc
    · rw [if_neg hi]; exact setW_other hc (.inr hi)
  exact ⟨by rw [e]; exact step 0 _ q0, by rw [e]; exact step 1 _ q1, by rw [e]; exact step 2 _ q2, by rw [e]; exact step 3 _ q3⟩
theorem PtrSt.sets {w0 : World} {rb bx tb : Nat} (hl : w0.heap.size ≤ rb) (hb : bx ≠ rb) (ht : tb ≠ rb) : ∀ i (h : i < (ptrFDs bx).length) vs, vs.length = i → SetsAs (ptrFDs bx)[i] rb vs (PtrSt w0 rb bx tb) := by
  intro i hi vs hv v w hs
  have hx := lt_of_cell? hs.box
  have hr := hs.rcd.lt
  obtain ⟨q0, q1, q2, q3⟩ := hs.rcd
  match i, hi, hv with
  | 0, _, hv => exact (set_pointerTable_0 bx rb _ v.1 v.2 w hx hr hs.box q0 (hs.frz 0 (by omega))).mono fun e w' ⟨e1, e2⟩ => ⟨e1, by rw [e2]; exact ptrSet hs hl hb ht hv.symm (by omega)⟩
  | 1, _, hv => exact (set_pointerTable_1 bx rb _ v.1 v.2 w hx hr hs.box q1 (hs.frz 1 (by omega))).mono fun e w' ⟨e1, e2⟩ => ⟨e1, by rw [e2]; exact ptrSet hs hl hb ht hv.symm (by omega)⟩
  | 2, _, hv => exact (set_pointerTable_2 bx rb _ v.1 v.2 w hx hr hs.box q2 (hs.frz 2 (by omega))).mono fun e w' ⟨e1, e2⟩ => ⟨e1, by rw [e2]; exact ptrSet hs hl hb ht hv.symm (by omega)⟩
  | 3, _, hv => exact (set_pointerTable_3 bx rb _ v.1 v.2 w hx hr hs.box q3 (hs.frz 3 (by omega))).mono fun e w' ⟨e1, e2⟩ => ⟨e1, by rw [e2]; exact ptrSet hs hl hb ht hv.symm (by omega)⟩
theorem ptrFD_senters (bx : Nat) : ∀ i (h : i < (ptrFDs bx).length), Enters Tryd.prog (ptrFDs bx)[i].sf := by
  intro i hi
  match i, hi with
  | 0, _ => exact enters_of Tryd.func59 (by kernel_rfl) rfl
  | 1, _ => exact enters_of Tryd.func61 (by kernel_rfl) rfl
  | 2, _ => exact enters_of Tryd.func63 (by kernel_rfl) rfl
  | 3, _ => exact enters_of Tryd.func65 (by kernel_rfl) rfl
theorem ptrFD_reads (bx : Nat) : ∀ i (h : i < (ptrFDs bx).length), ReadsAs (ptrFDs bx)[i].sh := by
  intro i hi
  match i, hi with
  | 0, _ => exact reads_num
  | 1, _ => exact reads_num
  | 2, _ => exact reads_num
  | 3, _ => exact reads_num
/-- what ParsePointer answers -/
def ptrRd (tx : ByteArray) (i : Nat) : Int := vN (rpVs ptrTitle tx (ptrFDs 0)) i
def ptrPE (tx : ByteArray) : Int := rpE ptrTitle tx (ptrFDs 0) (ptrOk (ptrRd tx 0) (ptrRd tx 1) (ptrRd tx 2) (ptrRd tx 3))
def ptrPV (tx : ByteArray) (i : Nat) : Int := if ptrPE tx = 0 then ptrRd tx i else 0
set_option maxHeartbeats 4000000 in
set_option maxRecDepth 100000 in
theorem parsePointer_any (tx : ByteArray) (w : World) (htx : tx.size < 9223372036854775808) (hT4 : Tab4 0 w) :
    Calls Tryd.prog 28 #[.string tx] w fun x w' => x = .returned (.tuple #[.agg #[.int .i64 (ptrPV tx 0), .int .i64 (ptrPV tx 1), .int .i64 (ptrPV tx 2), .int .i64 (ptrPV tx 3)], .int .i64 (ptrPE tx)]) ∧ Below w.heap.size w w' := by
  obtain ⟨Wr, hWr⟩ : ∃ Wr, Wr = w.alloc (.cells #[.int .i64 0, .int .i64 0, .int .i64 0, .int .i64 0] 42) := ⟨_, rfl⟩
  have sr : Wr.heap.size = w.heap.size + 1 := by rw [hWr]; simp
  have br : Below w.heap.size w Wr := by rw [hWr]; exact (Below.refl _ w).alloc (Nat.le_refl _) _
  obtain ⟨W0, hW0⟩ : ∃ W0, W0 = Wr.alloc (.cells #[.int .i64 0, .int .i64 0, .int .i64 0, .int .i64 0] 42) := ⟨_, rfl⟩
  have b0 : Below Wr.heap.size Wr W0 := by rw [hW0]; exact (Below.refl _ _).alloc (Nat.le_refl _) _
  have s0 : W0.heap.size = Wr.heap.size + 1 := by rw [hW0]; simp
  have r0 : PtrAt W0 Wr.heap.size 0 0 0 0 := by rw [hW0]; exact ⟨by simp, by simp, by simp, by simp⟩
  have f0 : ∀ o, o < 4 → W0.frozen? ⟨Wr.heap.size, o, none⟩ = false := by
    rw [hW0]; intro o ho
    match o, ho with
    | 0, _ => simp
    | 1, _ => simp
    | 2, _ => simp
    | 3, _ => simp
  have T := hide (pointerTable_any Wr.heap.size W0)
  obtain ⟨W1, hW1⟩ : ∃ W1, W1 = tabW 62 Wr.heap.size (ptrFDs W0.heap.size) W0 := ⟨_, rfl⟩
  have b1 : Below W0.heap.size W0 W1 := by rw [hW1]; exact tabW_below _ _ _ _
  have s1 : W1.heap.size = W0.heap.size + 2 := by rw [hW1]; exact tabW_size _ _ _ _
  have S1 : PtrSt Wr Wr.heap.size W0.heap.size (W0.heap.size + 1) [] W1 := by
    refine ⟨b0.trans (b1.mono b0.size), by rw [hW1]; exact tabW_tab _ _ _ _, by omega, by rw [hW1]; exact tabW_box _ _ _ _, ?_, fun o ho => ?_⟩
    · exact r0.kb (Kb.of (R := W1.heap.size) b1) (by omega)
    · rw [b1.frozen (by show Wr.heap.size < _; omega)]; exact f0 o ho
  obtain ⟨gE, gV⟩ := rp_sig ptrTitle tx (ptrOk (ptrRd tx 0) (ptrRd tx 1) (ptrRd tx 2) (ptrRd tx 3)) (show (ptrFDs W0.heap.size).map FD.sig = (ptrFDs 0).map FD.sig from rfl)
  have hT4r := hT4.below br hT4.lt
  have C : Hid (Calls Tryd.prog 55 #[.string tx, .string ptrTitle, .slice (some ⟨W0.heap.size + 1, 0, none⟩) 4 4] W1 fun e w' => e = .returned (.int .i64 (ptrPE tx)) ∧ (ptrPE tx = 0 → PtrSt Wr Wr.heap.size W0.heap.size (W0.heap.size + 1) (rpVs ptrTitle tx (ptrFDs 0)) w') ∧ ∃ vs, PtrSt Wr Wr.heap.size W0.heap.size (W0.heap.size + 1) vs w') := by
    have := readPaper_any ptrTitle tx (W0.heap.size + 1) 4 Wr.heap.size (ptrFDs W0.heap.size) (PtrSt Wr Wr.heap.size W0.heap.size (W0.heap.size + 1)) W1 (PtrSt.ok (by omega) (by omega) (by omega) (by omega)) (by show 4 ≤ 64; omega) (fun vs w h => ⟨h.tab, h.tlt⟩) (PtrSt.sets (Nat.le_refl _) (by omega) (by omega)) (ptrFD_senters _) (ptrFD_reads _) (ptrFD_enters _) (ptrV (ptrRd tx 0) (ptrRd tx 1) (ptrRd tx 2) (ptrRd tx 3)) (fun _ => ⟨#[]⟩) (ptrOkI (ptrRd tx 0) (ptrRd tx 1) (ptrRd tx 2) (ptrRd tx 3))
      (fun w' h => by rw [gV] at h; exact ptrFD_gets _ _ _ _ _ _ w' (lt_of_cell? h.box) h.rcd.lt h.box h.rcd) (ptrFD_allows _ _ _ _ _) S1 htx (fun vs w h => hT4r.below h.old hT4r.lt)
    rw [show allB (ptrFDs W0.heap.size).length (ptrOkI (ptrRd tx 0) (ptrRd tx 1) (ptrRd tx 2) (ptrRd tx 3)) = ptrOk (ptrRd tx 0) (ptrRd tx 1) (ptrRd tx 2) (ptrRd tx 3) from ptrOk_all _ _ _ _, gE, gV] at this
    exact this
  -- the place of the answer
  have RS : Hid (∀ w', Below Wr.heap.size Wr w' → (w'.cell? ⟨w.heap.size, 0, none⟩ = some (.int .i64 0) ∧ w'.cell? ⟨w.heap.size, 1, none⟩ = some (.int .i64 0) ∧ w'.cell? ⟨w.heap.size, 2, none⟩ = some (.int .i64 0) ∧ w'.cell? ⟨w.heap.size, 3, none⟩ = some (.int .i64 0)) ∧ (w'.frozen? ⟨w.heap.size, 0, none⟩ = false ∧ w'.frozen? ⟨w.heap.size, 1, none⟩ = false ∧ w'.frozen? ⟨w.heap.size, 2, none⟩ = false ∧ w'.frozen? ⟨w.heap.size, 3, none⟩ = false) ∧ w.heap.size < w'.heap.size) := fun w' hb => by
    have hl : w.heap.size < Wr.heap.size := by omega
    rw [hb.cell (by exact hl), hb.cell (by exact hl), hb.cell (by exact hl), hb.cell (by exact hl), hb.frozen (by exact hl), hb.frozen (by exact hl), hb.frozen (by exact hl), hb.frozen (by exact hl)]
    refine ⟨?_, ?_, Nat.lt_of_lt_of_le hl hb.size⟩
    · rw [hWr]; exact ⟨by simp, by simp, by simp, by simp⟩
    · rw [hWr]; exact ⟨by simp, by simp, by simp, by simp⟩
  have BR := hide br
  have PV : Hid (ptrPE tx = 0 → ∀ i, ptrPV tx i = vN (rpVs ptrTitle tx (ptrFDs 0)) i) := fun h i => by unfold ptrPV; rw [if_pos h]; rfl
  have PZ : Hid (¬ ptrPE tx = 0 → ∀ i, ptrPV tx i = 0) := fun h i => by unfold ptrPV; rw [if_neg h]
  generalize rpVs ptrTitle tx (ptrFDs 0) = VS at C PV
  unfold ptrTitle at C
  have hsr : Wr.heap.size = w.heap.size + 1 := sr
  rw [hsr] at T hW1
  clear gE gV hT4r S1 s1 b1 f0 r0 s0 b0 br hT4 sr
  obtain ⟨PE, hPE⟩ : ∃ PE, PE = ptrPE tx := ⟨_, rfl⟩
  obtain ⟨A0, hA0⟩ : ∃ A, A = ptrPV tx 0 := ⟨_, rfl⟩
  obtain ⟨A1, hA1⟩ : ∃ A, A = ptrPV tx 1 := ⟨_, rfl⟩
  obtain ⟨A2, hA2⟩ : ∃ A, A = ptrPV tx 2 := ⟨_, rfl⟩
  obtain ⟨A3, hA3⟩ : ∃ A, A = ptrPV tx 3 := ⟨_, rfl⟩
  rw [← hPE] at C PV PZ
  rw [← hPE, ← hA0, ← hA1, ← hA2, ← hA3]
  have PV2 : Hid (PE = 0 → A0 = vN VS 0 ∧ A1 = vN VS 1 ∧ A2 = vN VS 2 ∧ A3 = vN VS 3) := fun h => by rw [hA0, hA1, hA2, hA3]; exact ⟨PV.out h 0, PV.out h 1, PV.out h 2, PV.out h 3⟩
  have PZ2 : Hid (¬ PE = 0 → A0 = 0 ∧ A1 = 0 ∧ A2 = 0 ∧ A3 = 0) := fun h => by rw [hA0, hA1, hA2, hA3]; exact ⟨PZ.out h 0, PZ.out h 1, PZ.out h 2, PZ.out h 3⟩
  clear hPE hA0 hA1 hA2 hA3 PV PZ
  have HSR := hide hsr
  clear hsr
  by_cases hz : PE = 0
  · subst hz
    obtain ⟨p0, p1, p2, p3⟩ := PV2.out rfl
    go_enter Tryd.func28, Tryd.ntmps28
    go_wp2_with fail
    rw [← hWr, ← hW0]
    clear hWr hW0
    refine Calls.mono T.out ?_
    rintro x w2 ⟨rfl, rfl⟩
    rw [← hW1]
    clear hW1
    go_wp2_with fail
    refine Calls.mono C.out ?_
    rintro x w3 ⟨rfl, d1, d2⟩
    have s3 := d1 trivial
    obtain ⟨⟨z0, z1, z2, z3⟩, ⟨f0, f1, f2, f3⟩, hl3⟩ := RS.out w3 s3.old
    obtain ⟨q0, q1, q2, q3⟩ := s3.rcd
    rw [HSR.out, ← p0] at q0
    rw [HSR.out, ← p1] at q1
    rw [HSR.out, ← p2] at q2
    rw [HSR.out, ← p3] at q3
    have B3 := hide (BR.out.trans (s3.old.mono BR.out.size))
    clear d1 d2 C T RS p0 p1 p2 p3 PV2 PZ2 s3
    go_wp2_with fail
    refine bodyPost_ret (v := .tuple #[.agg #[.int .i64 A0, .int .i64 A1, .int .i64 A2, .int .i64 A3], .int .i64 0]) (by simp [results, Tryd.results28, go_sem, z0, z1, z2, z3]) rfl ⟨rfl, ?_⟩
    exact (((B3.out.setCell (Nat.le_refl _) _).setCell (Nat.le_refl _) _).setCell (Nat.le_refl _) _).setCell (Nat.le_refl _) _
  · obtain ⟨p0, p1, p2, p3⟩ := PZ2.out hz
    subst p0 p1 p2 p3
    have hz2 : (PE == 0) = false := by simpa using hz
    go_enter Tryd.func28, Tryd.ntmps28
    go_wp2_with fail
    rw [← hWr, ← hW0]
    clear hWr hW0
    refine Calls.mono T.out ?_
    rintro x w2 ⟨rfl, rfl⟩
    rw [← hW1]
    clear hW1
    go_wp2_with fail
    refine Calls.mono C.out ?_
    rintro x w3 ⟨rfl, d1, vs2, s3⟩
    obtain ⟨⟨z0, z1, z2, z3⟩, ⟨f0, f1, f2, f3⟩, hl3⟩ := RS.out w3 s3.old
    have B3 := hide (BR.out.trans (s3.old.mono BR.out.size))
    clear d1 C T RS PV2 PZ2 s3
    go_wp2_with fail
    refine bodyPost_ret (v := .tuple #[.agg #[.int .i64 0, .int .i64 0, .int .i64 0, .int .i64 0], .int .i64 PE]) (by simp [results, Tryd.results28, go_sem, z0, z1, z2, z3]) rfl ⟨rfl, ?_⟩
    exact (((B3.out.setCell (Nat.le_refl _) _).setCell (Nat.le_refl _) _).setCell (Nat.le_refl _) _).setCell (Nat.le_refl _) _
end Go.Proofs.YtbcpfekbnkkflaaDoor
