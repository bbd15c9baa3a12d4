import Derived.Test.YteiiolilpemimaaDoorAnSeat
import Derived.Test.YteiiolilpemimaaDoorGGcDoc
import Derived.Test.YteiiolilpemimaaDoorGAaClone
import Derived.Test.YteiiolilpemimaaDoorGAeKeep
namespace Go.Proofs.YteiiolilpemimaaDoor.Cn
open Go.RowKit
set_option maxHeartbeats 8000000 in
set_option maxRecDepth 100000 in
set_option linter.unusedSimpArgs false in
set_option linter.unusedVariables false in
theorem rnew_no (N : Nat) (w : World) (st : ByteArray) (x : Nat → Int) (ao : Option Addr) (b o cap : Nat) (pv : Nat → Value) (ns : List ND) (h : NsAt N w ao b o pv ns) (hN : N ≤ w.heap.size) (hs : st.size ≤ 9223372036854775807) (he : errP st x ns ≠ 0) (hT : TabG w) :
    Calls Tryd.prog 44 #[.agg (clA st x (.slice ao ns.length cap))] w fun e w' => e = .returned (.tuple #[.pointer none, .int .i64 (errP st x ns)]) ∧ Below w.heap.size w w' := by
  obtain ⟨W0, hW0, hX⟩ := boxed st x cap h hN
  have HX := hide (hX.stand hN)
  have B0 := hide hX.bel
  have T0 := hide (hT.below hX.bel)
  have CK := hide (rcheck_any N W0 st x ao b o cap pv ns HX.out.nd HX.out.le hs T0.out)
  obtain ⟨er, her⟩ : ∃ er, er = errP st x ns := ⟨_, rfl⟩
  rw [← her] at CK he ⊢
  clear hX h hT her
  have q0 : (er != 0) = true := by simpa using he
  go_enter Tryd.func44, Tryd.ntmps44
  go_upto_region 1 with fail
  rw [← hW0]
  clear hW0
  go_wp2_with (refine YteiiolilpemimaaDoor.wpList_loadCl rfl (.tmp 1) rfl w.heap.size st x _ rfl HX.out.cl ?_)
  refine Calls.mono CK.out ?_
  rintro e W3 ⟨rfl, b3⟩
  have B3 := hide (B0.out.trans (b3.mono B0.out.size))
  clear b3 CK
  go_wp2_with fail
  go_ret2
  exact ⟨rfl, B3.out⟩
def raN (rs lm : Int) (L : List Se) : Ra := ⟨rs, lm, 0, 0, false, 0, L, false, 0, 0, 0⟩
def RNew (st : ByteArray) (x : Nat → Int) (ns : List ND) (w w' : World) (B : Nat) : Prop := ∃ L sv, w.heap.size ≤ B ∧ RnAt w' B w.heap.size (raN (x 14) (x 15) L) sv ∧ L.length = ns.length ∧ (∀ j s, L[j]? = some s → newSe st x ns j s) ∧ Below w.heap.size w w'
def raZ : Array Value := raA (raN 0 0 []) (.slice none 0 0) (.slice none 0 0) (.slice none 0 0) (.slice none 0 0)
set_option maxHeartbeats 16000000 in
set_option maxRecDepth 100000 in
set_option linter.unusedSimpArgs false in
set_option linter.unusedVariables false in
theorem rnew_ok (N : Nat) (w : World) (st : ByteArray) (x : Nat → Int) (ao : Option Addr) (b o cap : Nat) (pv : Nat → Value) (ns : List ND) (h : NsAt N w ao b o pv ns) (hN : N ≤ w.heap.size) (hs : st.size ≤ 9223372036854775807) (he : errP st x ns = 0) (hT : TabG w) :
    Calls Tryd.prog 44 #[.agg (clA st x (.slice ao ns.length cap))] w fun e w' => ∃ B, e = .returned (.tuple #[.pointer (some ⟨B, 0, none⟩), .int .i64 0]) ∧ RNew st x ns w w' B := by
  have zn := nfP_len (errP_ok he).2
  have hln : Hid (∀ j : Nat, (hdS st x ns (j : Int)).length ≤ 64) := fun j => by
    unfold hdS
    split
    · exact Nat.le_trans (hdL_len _ _ _ _) (errP_all he).2.2.2.1.p2
    · simp
  obtain ⟨W0, hW0, hX⟩ := boxed st x cap h hN
  have HX := hide (hX.stand hN)
  have B0 := hide hX.bel
  have T0 := hide (hT.below hX.bel)
  have HS := hide hs
  have HE := hide he
  have HNN := hide hN
  have CK := hide (rcheck_any N W0 st x ao b o cap pv ns HX.out.nd HX.out.le hs T0.out)
  rw [he] at CK
  have TGL : Hid (0 < w.heap.size) := hT.lt
  obtain ⟨cn, hcn⟩ : ∃ cn, cn = ns.length := ⟨_, rfl⟩
  have HCN := hide hcn
  rw [← hcn] at zn
  have GR : Hid (∀ W, Stand N w.heap.size W st x ao b o cap pv ns → W.cell? ⟨w.heap.size, 22, none⟩ = some (.slice ao cn cap)) := fun W hW => by rw [hcn]; exact hW.cl.nv
  rw [← hcn]
  clear hX h hcn hT hs he
  go_enter Tryd.func44, Tryd.ntmps44
  rw [HCN.out]
  go_upto_region 1 with fail
  rw [← hW0]
  clear hW0
  go_wp2_with (refine YteiiolilpemimaaDoor.wpList_loadCl rfl (.tmp 1) rfl w.heap.size st x _ rfl HX.out.cl ?_)
  refine Calls.mono CK.out ?_
  rintro e W1 ⟨rfl, b1⟩
  rw [← HCN.out]
  have X1 := hide (HX.out.below b1)
  have B1 := hide (B0.out.trans (b1.mono B0.out.size))
  have T1 := hide (T0.out.below b1)
  clear b1 CK HX B0 T0
  go_upto_region 5 with fail
  rw [show (#[.string ⟨#[]⟩, .int .i64 0, .int .i64 0, .int .i64 0, .int .i64 0, .int .i64 0, .int .i64 0, .int .i64 0, .int .i64 0, .int .i64 0, .int .i64 0, .int .i64 0, .int .i64 0, .int .i64 0, .int .i64 0, .int .i64 0, .int .i64 0, .int .i64 0, .int .i64 0, .int .i64 0, .int .i64 0, .int .i64 0, .slice none 0 0, .int .i64 0, .int .i64 0, .bool false, .int .i64 0, .slice none 0 0, .slice none 0 0, .bool false, .int .i64 0, .int .i64 0, .int .i64 0, .slice none 0 0, .slice none 0 0] : Array Value) = raZ from rfl]
  obtain ⟨B, hB⟩ : ∃ B, B = W1.heap.size := ⟨_, rfl⟩
  obtain ⟨W2, hW2⟩ : ∃ W2, W2 = W1.alloc (.cells raZ 121) := ⟨_, rfl⟩
  have k2 : Kp W1 W2 non := by rw [hW2]; exact (Kp.refl W1 non).alloc _
  have m2 : W2.heap[B]? = some (.cells raZ 121) := by rw [hW2, hB]; exact heap_last W1 _
  have X2 := hide (X1.out.below k2.below)
  have x14 : W2.cell? ⟨w.heap.size, 15, none⟩ = some (.int .i64 (x 14)) := X2.out.cl.x 14 (by omega)
  have x15 : W2.cell? ⟨w.heap.size, 16, none⟩ = some (.int .i64 (x 15)) := X2.out.cl.x 15 (by omega)
  have c15 : W2.cell? ⟨B, 15, none⟩ = some (.int .i64 0) := by rw [cell_row m2]; rfl
  have c16 : W2.cell? ⟨B, 16, none⟩ = some (.int .i64 0) := by rw [cell_row m2]; rfl
  have f15 : W2.frozen? ⟨B, 15, none⟩ = false := fz_row m2 15
  have f16 : W2.frozen? ⟨B, 16, none⟩ = false := fz_row m2 16
  have hBw : w.heap.size < B := by rw [hB]; exact blk_lt X1.out.cl
  have hne : w.heap.size ≠ B := by omega
  have hne2 : B ≠ w.heap.size := by omega
  obtain ⟨W4, hW4⟩ : ∃ W4, W4 = (W2.setCell ⟨B, 15, none⟩ (.int .i64 (x 14))).setCell ⟨B, 16, none⟩ (.int .i64 (x 15)) := ⟨_, rfl⟩
  have k4 : Kp W1 W4 non := by
    rw [hW4]
    refine ((k2.set (Or.inr ?_) _ _).set (Or.inr ?_) _ _)
    · rw [hB]; exact Nat.le_refl _
    · rw [hB]; exact Nat.le_refl _
  have m4 : W4.heap[B]? = some (.cells (raA (raN (x 14) (x 15) []) (.slice none 0 0) (.slice none 0 0) (.slice none 0 0) (.slice none 0 0)) 121) := by
    rw [hW4]
    exact set_row (set_row m2 15 _) 16 _
  have X4 := hide (X1.out.below k4.below)
  have B4 : Hid (Below w.heap.size w W4) := B1.out.trans (k4.below.mono B1.out.size)
  have T4 := hide (T1.out.below k4.below)
  have R4 : Hid (RnAt W4 B w.heap.size (raN (x 14) (x 15) []) (.slice none 0 0)) := ⟨m4, World.ownsRow_nil _ _ _ _, fun s hs => by cases hs⟩
  have HBW := hide hBw
  clear k2 m2 X2 k4 m4 X1 B1 T1 hBw
  rw [← hB, ← hW2]
  clear hB hW2
  go_upto_region 7 with fail
  rw [← hW4]
  clear hW4 x14 x15 c15 c16 f15 f16 hne hne2
  obtain ⟨rs, hrs⟩ : ∃ rs, rs = x 14 := ⟨_, rfl⟩
  obtain ⟨lm, hlm⟩ : ∃ lm, lm = x 15 := ⟨_, rfl⟩
  have HRS := hide hrs
  have HLM := hide hlm
  rw [← hrs, ← hlm] at R4 ⊢
  clear hrs hlm
  go_wp2_with fail
  go_loopw [6] (fun v6 wr => ∃ i : Nat, i ≤ cn ∧ v6 = .int .i64 (i : Int) ∧ ∃ L sv, Hid (RnAt wr B w.heap.size (raN rs lm L) sv) ∧ Hid (L.length = i ∧ ∀ j s, L[j]? = some s → newSe st x ns j s) ∧ Hid (Stand N w.heap.size wr st x ao b o cap pv ns) ∧ Hid (Below w.heap.size w wr) ∧ Hid (TabG wr)) (fun v6 _ => cn - (intOf v6).toNat)
  case atStart => exact ⟨0, Nat.zero_le _, rfl, [], _, R4.out, ⟨rfl, fun j s hj => by simp at hj⟩, X4.out, B4.out, T4.out⟩
  case round =>
    clear R4 X4 B4 T4
    obtain ⟨i, hi, rfl, L, sv, HR, HL, HX, HB, HT⟩ := hrel
    have nv := GR.out wr HX.out
    by_cases hin : i < cn
    case neg =>
      obtain rfl : i = cn := by omega
      have hii : ¬ (i : Int) < (i : Int) := by omega
      go_wp2_with fail
      go_ret2
      exact ⟨B, rfl, L, sv, by have := HBW.out; omega, by rw [← HRS.out, ← HLM.out]; exact HR.out, HL.out.1.trans HCN.out, HL.out.2, HB.out⟩
    case pos =>
      have hii : (i : Int) < (cn : Int) := by omega
      have HD := hide (rholds_any N wr st x ao b o cap pv ns (i : Int) HX.out.nd HX.out.le HS.out HT.out)
      have e0 : hdE st x ns (i : Int) = 0 := hdE_ok HE.out (by have := HCN.out; omega)
      rw [e0] at HD
      have hl64 := hln.out i
      obtain ⟨hd, hhd⟩ : ∃ hd, hd = hdS st x ns (i : Int) := ⟨_, rfl⟩
      rw [← hhd] at HD hl64
      have HHD := hide hhd
      clear e0 hhd
      go_upto_region 10 with fail
      clear nv
      go_wp2_with (refine YteiiolilpemimaaDoor.wpList_loadCl rfl (.tmp 1) rfl w.heap.size st x _ rfl HX.out.cl ?_)
      refine Calls.mono HD.out ?_
      rintro e W3 ⟨hv, rfl, so, b3⟩
      obtain ⟨sa, sc, rfl⟩ := own_sl so
      have SO := hide so
      have X3 := hide (HX.out.below b3)
      have B3 := hide (HB.out.trans (b3.mono HB.out.size))
      have T3 := hide (HT.out.below b3)
      have R3 := hide (HR.out.kp (Kp.of_below b3 non))
      obtain ⟨sn, hsn⟩ : ∃ sn, sn = hd.length := ⟨_, rfl⟩
      rw [← hsn] at SO hl64 ⊢
      have HSN := hide hsn
      clear so b3 HD hsn HR HX HB HT
      go_wp2_with fail
      go_loopw [9, 10] (fun v7 vj wx => ∃ j : Nat, j ≤ sn ∧ vj = .int .i64 (j : Int) ∧ Hid (wx.ownsRow W3.heap.size 3 1 v7 j (ints (ptsL (hd.take j)))) ∧ Hid (Below W3.heap.size W3 wx)) (fun _ vj _ => sn - (intOf vj).toNat)
      case atStart => exact ⟨0, Nat.zero_le _, rfl, World.ownsRow_nil _ _ _ _, Below.refl _ _⟩
      case round =>
        obtain ⟨j, hj, rfl, HP, HBJ⟩ := hrel
        by_cases hjn : j < sn
        case neg =>
          obtain rfl : j = sn := by omega
          have hjj : ¬ (j : Int) < (j : Int) := by omega
          obtain ⟨pa, pc, hp7⟩ := own_sl HP.out
          subst hp7
          have kj : Kp W3 wr non := Kp.of_below HBJ.out non
          have BJ := hide (B3.out.trans (HBJ.out.mono B3.out.size))
          have RJ := hide (R3.out.kp kj)
          have XJ := hide (X3.out.below HBJ.out)
          have TJ := hide (T3.out.below HBJ.out)
          have PJ : Hid (wr.ownsRow w.heap.size 3 1 (.slice pa j pc) (ptsL hd).length (ints (ptsL hd))) := by
            have z := HP.out
            rw [List.take_of_length_le (by rw [HSN.out]; exact Nat.le_refl _)] at z
            have e : (ptsL hd).length = j := by unfold ptsL; rw [List.length_map, HSN.out]
            rw [e]
            exact own_base z B3.out.size
          obtain ⟨se, hse⟩ : ∃ se : Se, se = ⟨ptsL hd, .slice pa j pc, 0, false, 0, 0⟩ := ⟨_, rfl⟩
          have HSE := hide hse
          have ESV : seV se = #[.slice pa j pc, .int .i64 0, .bool false, .int .i64 0, .int .i64 0] := by rw [hse]; rfl
          have HESV := hide ESV
          have c27 : wr.cell? ⟨B, 27, none⟩ = some sv := by rw [cell_row RJ.out.blk]; rfl
          obtain ⟨sva, svc, rfl⟩ := own_sl RJ.out.row
          obtain ⟨lc, hlc⟩ : ∃ lc, lc = (raN rs lm L).seats.length := ⟨_, rfl⟩
          have hlci : lc = i := by rw [hlc]; exact HL.out.1
          have OR : Hid (wr.ownsRow w.heap.size 123 5 (.slice sva lc svc) lc (ses L)) := by rw [hlc]; exact RJ.out.row
          rw [← hlc] at c27
          obtain ⟨WA, hWA⟩ : ∃ WA, WA = wr.alloc (.cells (seV se) 123) := ⟨_, rfl⟩
          have ka : Kp wr WA non := by rw [hWA]; exact (Kp.refl wr non).alloc _
          have GA : Hid (WA.heap[wr.heap.size]? = some (.cells (seV se) 123)) := by rw [hWA]; exact heap_last _ _
          have OA : Hid (WA.ownsRow w.heap.size 123 5 (.slice sva lc svc) lc (ses L)) := own_kp OR.out ka (fun _ _ f => f)
          have SZ : Hid (w.heap.size ≤ WA.heap.size) := Nat.le_trans BJ.out.size ka.size
          have KA := hide ka
          have BK : Hid (wr.heap[B]? = some (.cells (raA (raN rs lm L) (.slice sva lc svc) (.slice none 0 0) (.slice none 0 0) (.slice none 0 0)) 121)) := by rw [hlc]; exact RJ.out.blk
          have LSJ : Hid (∀ s ∈ L, wr.ownsRow w.heap.size 3 1 s.lv s.l.length (ints s.l)) := RJ.out.ls
          have hlc16 : lc ≤ 16 := by omega
          have HLC : Hid (lc = L.length) := hlc
          clear ka hse ESV hlc kj RJ hlci
          go_wp2_with (first
            | (refine wpList_bsSe rfl (.tmp 63) rfl se #[.slice pa j pc, .int .i64 0, .bool false, .int .i64 0, .int .i64 0] HESV.out rfl ?_; rw [← hWA])
            | (at_builtin
               refine wpList_apSe rfl (.tmp 61) (.tmp 64) rfl w.heap.size _ lc L rfl OA.out wr.heap.size se (by rw [HSE.out]; exact ⟨_, _, _, rfl⟩) rfl GA.out (by omega) SZ.out ?_
               intro v9 w3 o2 g2
               have k9 : Kp wr w3 (fun kk => some kk = (Value.slice sva lc svc).ownBlock) := (KA.out.mono (T := fun kk => some kk = (Value.slice sva lc svc).ownBlock) (fun _ f => f.elim)).trans (Kp.of_grown g2) (fun _ e => Or.inl e)
               have b9 : w3.heap[B]? = _ := (k9.block _ (blk_lt BK.out) (fun e => by
                 obtain ⟨cur, hc'⟩ := own_typ OR.out e.symm
                 rw [BK.out] at hc'
                 simp at hc')).trans BK.out
               have f9 : w3.frozen? ⟨B, 27, none⟩ = false := fz_row b9 27
               have c9 : w3.cell? ⟨B, 27, none⟩ = some (.slice sva lc svc) := by rw [cell_row b9]; rfl
               obtain ⟨va, vc, rfl⟩ := own_sl o2))
          have k10 : Kp wr (w3.setCell ⟨B, 27, none⟩ (.slice va (lc + 1) vc)) (fun kk => kk = B ∨ some kk = (Value.slice sva lc svc).ownBlock) := (k9.mono (T := fun kk => kk = B ∨ some kk = (Value.slice sva lc svc).ownBlock) (fun _ e => Or.inr e)).set (Or.inl (Or.inl rfl)) _ _
          have ge : ∀ kk, (kk = B ∨ some kk = (Value.slice sva lc svc).ownBlock) → w.heap.size ≤ kk := fun kk e => by
            have := HBW.out
            rcases e with e | e
            · omega
            · exact own_ge OR.out e.symm
          have off : ∀ {kk : Nat} {C : Array Value} {t : TypeId} {fr : Nat × Nat}, wr.heap[kk]? = some (.cells C t fr) → t ≠ 123 → t ≠ 121 → ¬ (kk = B ∨ some kk = (Value.slice sva lc svc).ownBlock) := fun {kk C t fr} hc h1 h2 e => by
            rcases e with e | e
            · rw [e, BK.out] at hc
              simp at hc
              exact h2 hc.2.1.symm
            · obtain ⟨cur, hc'⟩ := own_typ OR.out e.symm
              rw [hc] at hc'
              simp at hc'
              exact h1 hc'.2.1
          have B10 : Hid (Below w.heap.size w (w3.setCell ⟨B, 27, none⟩ (.slice va (lc + 1) vc))) := BJ.out.trans ⟨k10.os, k10.tape, k10.output, k10.size, fun k hk => k10.block k (Nat.lt_of_lt_of_le hk BJ.out.size) (fun e => by have := ge k e; omega)⟩
          have X10 : Hid (Stand N w.heap.size (w3.setCell ⟨B, 27, none⟩ (.slice va (lc + 1) vc)) st x ao b o cap pv ns) :=
            ⟨(k10.block _ (blk_lt XJ.out.cl) (off XJ.out.cl (by decide) (by decide))).trans XJ.out.cl, XJ.out.nd.below ⟨k10.os, k10.tape, k10.output, k10.size, fun k hk => k10.block k (Nat.lt_of_lt_of_le hk XJ.out.le) (fun e => by have := ge k e; have := HNN.out; omega)⟩, Nat.le_trans XJ.out.le k10.size⟩
          have T10 : Hid (TabG (w3.setCell ⟨B, 27, none⟩ (.slice va (lc + 1) vc))) := fun m hm => (k10.cell TJ.out.lt (fun e => by have := ge _ e; have := TGL.out; omega)).trans (TJ.out m hm)
          have int10 : ∀ {u : Value} {n : Nat} {xs : List Value} {b0 : Nat}, wr.ownsRow b0 3 1 u n xs → (w3.setCell ⟨B, 27, none⟩ (.slice va (lc + 1) vc)).ownsRow b0 3 1 u n xs := fun {u n xs b0} hh => own_kp hh k10 (fun k e => by
            obtain ⟨cur, hc⟩ := own_typ hh e
            exact off hc (by decide) (by decide))
          have R10 : Hid (RnAt (w3.setCell ⟨B, 27, none⟩ (.slice va (lc + 1) vc)) B w.heap.size (raN rs lm (L ++ [se])) (.slice va (lc + 1) vc)) := by
            refine ⟨set_row b9 27 _, ?_, fun s hs => ?_⟩
            · show World.ownsRow _ _ _ _ _ (L ++ [se]).length (ses (L ++ [se]))
              rw [List.length_append, ← HLC.out]
              exact own_kp o2 ((Kp.refl w3 (fun kk => kk = B)).set (Or.inl rfl) _ _) (fun k e1 e2 => by
                obtain ⟨cur, hc⟩ := own_typ o2 e1
                rw [e2, b9] at hc
                simp at hc)
            · have hs' : s ∈ L ++ [se] := hs
              rcases List.mem_append.1 hs' with hs' | hs'
              · exact int10 (LSJ.out s hs')
              · simp at hs'
                subst hs'
                rw [HSE.out]
                exact int10 PJ.out
          have L10 : Hid ((L ++ [se]).length = i + 1 ∧ ∀ j s, (L ++ [se])[j]? = some s → newSe st x ns j s) := by
            refine ⟨by rw [List.length_append, HL.out.1]; rfl, fun jj s hj => ?_⟩
            by_cases hjl : jj < L.length
            · rw [List.getElem?_append_left hjl] at hj
              exact HL.out.2 jj s hj
            · rw [List.getElem?_append_right (by omega)] at hj
              have hz : jj = i := by
                have := (List.getElem?_eq_some_iff.1 hj).1
                simp at this
                have := HL.out.1
                omega
              subst hz
              rw [HL.out.1, Nat.sub_self] at hj
              obtain rfl : se = s := by simpa using hj
              rw [HSE.out, HHD.out]
              exact ⟨rfl, rfl, rfl, rfl, rfl⟩
          clear k10 ge off int10 k9 b9 f9 c9 o2 g2
          generalize w3.setCell ⟨B, 27, none⟩ (.slice va (lc + 1) vc) = W9 at *
          go_roundw
          case rel => exact ⟨i + 1, by omega, by go_num, L ++ [se], _, R10.out, L10.out, X10.out, B10.out, T10.out⟩
          case measure => simp [intOf]; omega
        case pos =>
          have hjj : (j : Int) < (sn : Int) := by omega
          have hjl : j < hd.length := by rw [← HSN.out]; exact hjn
          have kj : Kp W3 wr non := Kp.of_below HBJ.out non
          obtain ⟨g, c9, e9, q9, -⟩ := own_at (own_kp SO.out kj (fun _ _ f => f)) (slc_at hd j hjl).1
          injection e9 with e9 _ ec9
          subst e9
          subst ec9
          have TK : Hid (ptsL (hd.take (j + 1)) = ptsL (hd.take j) ++ [(hd[j].1 : Int)]) := by
            unfold Hid ptsL
            rw [List.take_succ_eq_append_getElem hjl, List.map_append]
            rfl
          obtain ⟨z, hz⟩ : ∃ z : Int, z = (hd[j].1 : Int) := ⟨_, rfl⟩
          rw [← hz] at q9 TK
          obtain ⟨WA, hWA⟩ : ∃ WA, WA = wr.alloc (.cells #[.int .i64 z] 3) := ⟨_, rfl⟩
          have ka : Kp wr WA non := by rw [hWA]; exact (Kp.refl wr non).alloc _
          have GA : Hid (WA.heap[wr.heap.size]? = some (.cells #[.int .i64 z] 3)) := by rw [hWA]; exact heap_last _ _
          have OA : Hid (WA.ownsRow W3.heap.size 3 1 u9 j (ints (ptsL (hd.take j)))) := own_kp HP.out ka (fun _ _ f => f)
          have SZ : Hid (W3.heap.size ≤ WA.heap.size) := Nat.le_trans HBJ.out.size ka.size
          have KA := hide ka
          clear ka kj hz
          go_wp2_with (at_builtin; rw [← hWA]; refine wpList_apIB rfl (.tmp 49) (.tmp 55) rfl W3.heap.size _ j (ptsL (hd.take j)) rfl OA.out wr.heap.size z rfl GA.out (by omega) SZ.out ?_; intro v' w3 o2 g2 _)
          have B9 : Hid (Below W3.heap.size W3 w3) := by
            have k9 : Kp wr w3 (fun b => some b = u9.ownBlock) := (KA.out.mono (T := fun b => some b = u9.ownBlock) (fun _ f => f.elim)).trans (Kp.of_grown g2) (fun _ e => Or.inl e)
            exact HBJ.out.trans ⟨k9.os, k9.tape, k9.output, k9.size, fun k hk => k9.block k (Nat.lt_of_lt_of_le hk HBJ.out.size) (fun e => by have := own_ge HP.out e.symm; omega)⟩
          have O9 : Hid (w3.ownsRow W3.heap.size 3 1 v' (j + 1) (ints (ptsL (hd.take (j + 1))))) := by rw [TK.out]; exact o2
          clear o2 g2 hWA
          go_roundw
          case rel => exact ⟨j + 1, by omega, by go_num, O9.out, B9.out⟩
          case measure => simp [intOf]; omega
end Go.Proofs.YteiiolilpemimaaDoor.Cn
