import Derived.Test.YtfpalfpfijcpbaaGreatDoorGPaSum
import Derived.Test.YtfpalfpfijcpbaaGreatDoorGPaUns
import Derived.Test.YtfpalfpfijcpbaaGreatDoorPaReads
namespace Go.Proofs.YtfpalfpfijcpbaaGreatDoor
open Go.RowKit Go.Shelf
def bxv (bx : Nat) : Array Value := #[.pointer (some ⟨bx, 0, none⟩)]
def ptrFDs (bx : Nat) : List FD := [⟨⟨#[99, 117, 114, 32]⟩, 0, 0, 999999, 79, 80, bxv bx, nl⟩, ⟨⟨#[112, 114, 101, 118, 32]⟩, 0, 0, 999999, 81, 82, bxv bx, nl⟩, ⟨⟨#[101, 112, 111, 99, 104, 32]⟩, 0, 0, 9007199254740992, 83, 84, bxv bx, nl⟩, ⟨⟨#[115, 101, 113, 32]⟩, 0, 0, 9007199254740992, 85, 86, bxv bx, nl⟩]
set_option maxHeartbeats 2000000 in
set_option maxRecDepth 100000 in
theorem pointerTable_any (rb : Nat) (w : World) :
    Calls Tryz.prog 37 #[.pointer (some ⟨rb, 0, none⟩)] w fun e w' => e = .returned (.slice (some ⟨w.heap.size + 1, 0, none⟩) 4 4) ∧ w' = tabW 78 rb (ptrFDs w.heap.size) w := by
  have hmf : ∀ (fn : Fn) (first cap : Array Value) (w : World), (Instr.makeFunc fn first cap).run Tryz.prog w = .ok (.func fn first cap) w := fun _ _ _ _ => rfl
  go_enter Tryz.func37, Tryz.ntmps37
  go_wp2_with fail
  go_ret
  exact ⟨rfl, rfl⟩
/-- a pointer's four numbers -/
def ptrV (c p e s : Int) : Nat → Int
  | 0 => c
  | 1 => p
  | 2 => e
  | _ => s
def ptrHi : Nat → Int
  | 0 => 999999
  | 1 => 999999
  | 2 => 9007199254740992
  | _ => 9007199254740992
def ptrOkI (c p e s : Int) (i : Nat) : Bool := inR (ptrV c p e s i) 0 (ptrHi i)
def ptrOk (c p e s : Int) : Bool := inR c 0 999999 && inR p 0 999999 && inR e 0 9007199254740992 && inR s 0 9007199254740992
theorem ptrOk_all (c p e s : Int) : allB 4 (ptrOkI c p e s) = ptrOk c p e s := by
  unfold allB ptrOk
  simp [List.range, List.range.loop, ptrOkI, ptrV, ptrHi, Bool.and_assoc]
def itS (n : Int) : ByteArray := strOf (Lib.itoa n)
/-- the rows of a pointer -/
def ptrL (c p e s : Int) : List UInt8 := [99, 117, 114, 32] ++ Lib.itoa c ++ [10] ++ ([112, 114, 101, 118, 32] ++ Lib.itoa p ++ [10]) ++ ([101, 112, 111, 99, 104, 32] ++ Lib.itoa e ++ [10]) ++ ([115, 101, 113, 32] ++ Lib.itoa s ++ [10])
theorem ptrL_wr (bx : Nat) (c p e s : Int) : wrL (ptrFDs bx) (fun i => itS (ptrV c p e s i)) 4 = ptrL c p e s := rfl
theorem ptrFD_enters (bx : Nat) : ∀ i (h : i < (ptrFDs bx).length), Enters Tryz.prog (ptrFDs bx)[i].gf := by
  intro i hi
  match i, hi with
  | 0, _ => exact enters_of Tryz.func79 (by kernel_rfl) rfl
  | 1, _ => exact enters_of Tryz.func81 (by kernel_rfl) rfl
  | 2, _ => exact enters_of Tryz.func83 (by kernel_rfl) rfl
  | 3, _ => exact enters_of Tryz.func85 (by kernel_rfl) rfl
/-- the record of a pointer, in memory -/
def PtrAt (w : World) (rb : Nat) (c p e s : Int) : Prop := w.cell? ⟨rb, 0, none⟩ = some (.int .i64 c) ∧ w.cell? ⟨rb, 1, none⟩ = some (.int .i64 p) ∧ w.cell? ⟨rb, 2, none⟩ = some (.int .i64 e) ∧ w.cell? ⟨rb, 3, none⟩ = some (.int .i64 s)
theorem ptrFD_gets (rb bx : Nat) (c p e s : Int) (w : World) (hx : bx < w.heap.size) (hr : rb < w.heap.size) (h1 : w.cell? ⟨bx, 0, none⟩ = some (.pointer (some ⟨rb, 0, none⟩))) (h2 : PtrAt w rb c p e s) : ∀ i (h : i < (ptrFDs bx).length), GetsAt w (ptrFDs bx)[i] (ptrV c p e s i) ⟨#[]⟩ := by
  intro i hi w' hw
  have z := hw.size
  obtain ⟨q0, q1, q2, q3⟩ := h2
  have hb : w'.cell? ⟨bx, 0, none⟩ = some (.pointer (some ⟨rb, 0, none⟩)) := by rw [hw.cell (by exact hx)]; exact h1
  match i, hi with
  | 0, _ => exact get_pointerTable_0 bx rb c w' (by omega) (by omega) hb (by rw [hw.cell (by exact hr)]; exact q0)
  | 1, _ => exact get_pointerTable_1 bx rb p w' (by omega) (by omega) hb (by rw [hw.cell (by exact hr)]; exact q1)
  | 2, _ => exact get_pointerTable_2 bx rb e w' (by omega) (by omega) hb (by rw [hw.cell (by exact hr)]; exact q2)
  | 3, _ => exact get_pointerTable_3 bx rb s w' (by omega) (by omega) hb (by rw [hw.cell (by exact hr)]; exact q3)
theorem ptrFD_allows (bx : Nat) (c p e s : Int) : ∀ i (h : i < (ptrFDs bx).length), AllowsIs (ptrFDs bx)[i] (ptrV c p e s i) ⟨#[]⟩ (ptrOkI c p e s i) := by
  intro i hi w'
  match i, hi with
  | 0, _ => exact allows_num 0 (.inl rfl) c 0 999999 _ w'
  | 1, _ => exact allows_num 0 (.inl rfl) p 0 999999 _ w'
  | 2, _ => exact allows_num 0 (.inl rfl) e 0 9007199254740992 _ w'
  | 3, _ => exact allows_num 0 (.inl rfl) s 0 9007199254740992 _ w'
def I64 (n : Int) : Prop := -9223372036854775808 ≤ n ∧ n ≤ 9223372036854775807
def Pow (w : World) : Prop := Lib.TabIs Tryz.prog w "internal/strconv.uint64pow10" .u64 Lib.pow10Tab
theorem Pow.below {w w' : World} (h : Pow w) (hb : Below w.heap.size w w') : Pow w' := Lib.tabBelow_of_tabIs h w' hb
theorem ptrV_i64 {c p e s : Int} (hc : I64 c) (hp : I64 p) (he : I64 e) (hs : I64 s) (i : Nat) : I64 (ptrV c p e s i) := by
  match i with
  | 0 => exact hc
  | 1 => exact hp
  | 2 => exact he
  | _ + 3 => exact hs
theorem ptrFD_prints (bx : Nat) (c p e s : Int) (hv : ∀ i, I64 (ptrV c p e s i)) (w : World) (hP : Pow w) : ∀ i (h : i < (ptrFDs bx).length), PrintsAt w (ptrFDs bx)[i] (ptrV c p e s i) ⟨#[]⟩ (itS (ptrV c p e s i)) := by
  intro i hi w' hw
  have hsh : (ptrFDs bx)[i].sh = 0 := by
    match i, hi with
    | 0, _ => rfl
    | 1, _ => rfl
    | 2, _ => rfl
    | 3, _ => rfl
  rw [hsh]
  exact print_num (ptrV c p e s i) _ w' (hv i).1 (hv i).2 (hP.below hw)
theorem ptrFD_small (bx : Nat) : ∀ i (h : i < (ptrFDs bx).length), (ptrFDs bx)[i].wd.size ≤ 1000 ∧ (ptrFDs bx)[i].en.size ≤ 1000 := by
  intro i hi
  match i, hi with
  | 0, _ => exact ⟨Nat.le_of_ble_eq_true rfl, Nat.le_of_ble_eq_true rfl⟩
  | 1, _ => exact ⟨Nat.le_of_ble_eq_true rfl, Nat.le_of_ble_eq_true rfl⟩
  | 2, _ => exact ⟨Nat.le_of_ble_eq_true rfl, Nat.le_of_ble_eq_true rfl⟩
  | 3, _ => exact ⟨Nat.le_of_ble_eq_true rfl, Nat.le_of_ble_eq_true rfl⟩
def ptrTitle : ByteArray := ⟨#[103, 114, 97, 110, 97, 114, 121, 32, 108, 97, 116, 101, 115, 116, 32, 49, 10]⟩
def ptrS (c p e s : Int) : ByteArray := if ptrOk c p e s then paperS ptrTitle (ptrL c p e s) else ⟨#[]⟩
def ptrE (c p e s : Int) : Int := if ptrOk c p e s then 0 else 42
set_option maxHeartbeats 2000000 in
set_option maxRecDepth 100000 in
theorem printPointer_any (c p e s : Int) (hc : I64 c) (hp : I64 p) (he : I64 e) (hs : I64 s) (w : World) (hP : Pow w) (hT4 : Tab4 0 w) :
    Calls Tryz.prog 14 #[.agg #[.int .i64 c, .int .i64 p, .int .i64 e, .int .i64 s]] w fun x w' => x = .returned (.tuple #[.string (ptrS c p e s), .int .i64 (ptrE c p e s)]) ∧ Below w.heap.size w w' := by
  obtain ⟨W0, hW0⟩ : ∃ W0, W0 = w.alloc (.cells #[.int .i64 c, .int .i64 p, .int .i64 e, .int .i64 s] 25) := ⟨_, rfl⟩
  have b0 : Below w.heap.size w W0 := by rw [hW0]; exact (Below.refl _ w).alloc (Nat.le_refl _) _
  have s0 : W0.heap.size = w.heap.size + 1 := by rw [hW0]; simp
  have r0 : PtrAt W0 w.heap.size c p e s := by rw [hW0]; exact ⟨by simp, by simp, by simp, by simp⟩
  have T := hide (pointerTable_any w.heap.size W0)
  obtain ⟨W1, hW1⟩ : ∃ W1, W1 = tabW 78 w.heap.size (ptrFDs W0.heap.size) W0 := ⟨_, rfl⟩
  have b1 : Below W0.heap.size W0 W1 := by rw [hW1]; exact tabW_below _ _ _ _
  have s1 : W1.heap.size = W0.heap.size + 2 := by rw [hW1]; exact tabW_size _ _ _ _
  have t1 : TabAt (W0.heap.size + 1) W1 (ptrFDs W0.heap.size) := by rw [hW1]; exact tabW_tab _ _ _ _
  have x1 : W1.cell? ⟨W0.heap.size, 0, none⟩ = some (.pointer (some ⟨w.heap.size, 0, none⟩)) := by rw [hW1]; exact tabW_box _ _ _ _
  have r1 : PtrAt W1 w.heap.size c p e s := by
    obtain ⟨q0, q1, q2, q3⟩ := r0
    have hl : w.heap.size < W0.heap.size := by omega
    exact ⟨by rw [b1.cell (by exact hl)]; exact q0, by rw [b1.cell (by exact hl)]; exact q1, by rw [b1.cell (by exact hl)]; exact q2, by rw [b1.cell (by exact hl)]; exact q3⟩
  have bb := b0.trans (b1.mono b0.size)
  have G := ptrFD_gets w.heap.size W0.heap.size c p e s W1 (by omega) (by omega) x1 r1
  have hv := ptrV_i64 hc hp he hs
  have C : Hid (Calls Tryz.prog 34 #[.string ptrTitle, .slice (some ⟨W0.heap.size + 1, 0, none⟩) 4 4] W1 fun x w' => x = .returned (.tuple #[.string (ptrS c p e s), .int .i64 (ptrE c p e s)]) ∧ Below W1.heap.size W1 w') := by
    by_cases hok : ptrOk c p e s = true
    · have := printPaper_ok ptrTitle (W0.heap.size + 1) 4 (ptrFDs W0.heap.size) W1 (ptrV c p e s) (fun _ => ⟨#[]⟩) (ptrOkI c p e s) (fun i => itS (ptrV c p e s i)) 20 (by omega) (by decide) (by show 4 ≤ 64; omega) t1 (by omega) (ptrFD_enters _) G (ptrFD_allows _ c p e s) (by show allB 4 _ = true; rw [ptrOk_all]; exact hok) (ptrFD_prints _ c p e s hv W1 (hP.below bb)) (ptrFD_small _) (fun i => by unfold itS; rw [strOf_size]; exact itoa_len _ (hv i).1 (hv i).2) (hT4.below bb hT4.lt)
      have e1 : ptrS c p e s = paperS ptrTitle (wrL (ptrFDs W0.heap.size) (fun i => itS (ptrV c p e s i)) (ptrFDs W0.heap.size).length) := by unfold ptrS; rw [if_pos hok]; rfl
      have e2 : ptrE c p e s = 0 := by unfold ptrE; rw [if_pos hok]
      rw [e1, e2]
      exact this
    · have := printPaper_no ptrTitle (W0.heap.size + 1) 4 (ptrFDs W0.heap.size) W1 (ptrV c p e s) (fun _ => ⟨#[]⟩) (ptrOkI c p e s) (by show 4 ≤ 64; omega) t1 (by omega) (ptrFD_enters _) G (ptrFD_allows _ c p e s) (by show allB 4 _ = false; rw [ptrOk_all]; simpa using hok)
      have e1 : ptrS c p e s = ⟨#[]⟩ := by unfold ptrS; rw [if_neg hok]
      have e2 : ptrE c p e s = 42 := by unfold ptrE; rw [if_neg hok]
      rw [e1, e2]
      exact this
  have BB := hide bb
  unfold ptrTitle at C
  clear G hP hT4 r0 r1 t1 x1 b0 b1 bb s1 s0 hv hc hp he hs
  go_enter Tryz.func14, Tryz.ntmps14
  go_wp2_with fail
  rw [← hW0]
  clear hW0
  refine Calls.mono T.out ?_
  rintro x w2 ⟨rfl, rfl⟩
  rw [← hW1]
  clear hW1
  go_wp2_with fail
  refine Calls.mono C.out ?_
  rintro x w3 ⟨rfl, b3⟩
  have B3 := hide (BB.out.trans (b3.mono BB.out.size))
  clear b3 C T
  go_wp2
  go_ret2
  exact ⟨rfl, B3.out⟩
end Go.Proofs.YtfpalfpfijcpbaaGreatDoor
namespace Go.Proofs.YtfpalfpfijcpbaaGreatDoor
open Go.RowKit Go.Shelf
def FD.sig (f : FD) : ByteArray × Int × ByteArray := (f.wd, f.sh, f.en)
theorem fld_sig {f g : FD} (h : f.sig = g.sig) (l : List UInt8) : fldOk f l = fldOk g l ∧ fldN f l = fldN g l ∧ fldV f l = fldV g l := by
  unfold FD.sig at h
  simp only [Prod.mk.injEq] at h
  obtain ⟨h1, h2, h3⟩ := h
  have hw : fldW f l = fldW g l := by unfold fldW; rw [h1]
  refine ⟨?_, ?_, ?_⟩
  · unfold fldOk; rw [hw, h1, h2, h3]
  · unfold fldN; rw [hw, h1, h3]
  · unfold fldV; rw [hw, h2]
theorem tab_sig : ∀ (xs ys : List FD) (l : List UInt8), xs.map FD.sig = ys.map FD.sig → tabOk xs l = tabOk ys l ∧ tabN xs l = tabN ys l ∧ tabVs xs l = tabVs ys l
  | [], [], _, _ => ⟨rfl, rfl, rfl⟩
  | [], _ :: _, _, h => by simp at h
  | _ :: _, [], _, h => by simp at h
  | f :: r, g :: s, l, h => by
    simp only [List.map_cons, List.cons.injEq] at h
    obtain ⟨a1, a2, a3⟩ := fld_sig h.1 l
    obtain ⟨b1, b2, b3⟩ := tab_sig r s (l.drop (fldN g l)) h.2
    refine ⟨?_, ?_, ?_⟩
    · show (fldOk f l && tabOk r (l.drop (fldN f l))) = (fldOk g l && tabOk s (l.drop (fldN g l)))
      rw [a1, a2, b1]
    · show fldN f l + tabN r (l.drop (fldN f l)) = fldN g l + tabN s (l.drop (fldN g l))
      rw [a2, b2]
    · show fldV f l :: tabVs r (l.drop (fldN f l)) = fldV g l :: tabVs s (l.drop (fldN g l))
      rw [a3, a2, b3]
theorem rp_sig {xs ys : List FD} (title tx : ByteArray) (ok : Bool) (h : xs.map FD.sig = ys.map FD.sig) : rpE title tx xs ok = rpE title tx ys ok ∧ rpVs title tx xs = rpVs title tx ys := by
  obtain ⟨h1, h2, h3⟩ := tab_sig xs ys (tx.data.toList.drop title.size) h
  refine ⟨?_, h3⟩
  unfold rpE rpForm rpA
  rw [h1, h2]
/-- the i-th number of what was read -/
def vN (vs : List Val) (i : Nat) : Int := (vs[i]?.map (·.1)).getD 0
theorem vN_app (vs : List Val) (v : Val) (i : Nat) : vN (vs ++ [v]) i = if i = vs.length then v.1 else vN vs i := by
  unfold vN
  rcases Nat.lt_trichotomy i vs.length with h | h | h
  · rw [List.getElem?_append_left h, if_neg (by omega)]
  · rw [List.getElem?_append_right (by omega), if_pos h, h]; simp
  · rw [List.getElem?_eq_none (by simp; omega), if_neg (by omega), List.getElem?_eq_none (by omega)]
structure PtrSt (w0 : World) (rb bx tb : Nat) (vs : List Val) (w : World) : Prop where
  old : Below w0.heap.size w0 w
  tab : TabAt tb w (ptrFDs bx)
  tlt : tb < w.heap.size
  box : w.cell? ⟨bx, 0, none⟩ = some (.pointer (some ⟨rb, 0, none⟩))
  rcd : PtrAt w rb (vN vs 0) (vN vs 1) (vN vs 2) (vN vs 3)
  frz : ∀ o, o < 4 → w.frozen? ⟨rb, o, none⟩ = false
theorem PtrAt.lt {w : World} {rb : Nat} {c p e s : Int} (h : PtrAt w rb c p e s) : rb < w.heap.size := lt_of_cell? h.1
theorem PtrAt.kb {w w' : World} {R rb : Nat} {c p e s : Int} (h : PtrAt w rb c p e s) (hk : Kb R w w') (hn : rb ≠ R) : PtrAt w' rb c p e s := by
  have hl := h.lt
  obtain ⟨h0, h1, h2, h3⟩ := h
  exact ⟨by rw [hk.cell hl hn]; exact h0, by rw [hk.cell hl hn]; exact h1, by rw [hk.cell hl hn]; exact h2, by rw [hk.cell hl hn]; exact h3⟩
theorem PtrSt.ok {w0 : World} {R rb bx tb : Nat} (hR : w0.heap.size ≤ R) (h1 : R ≠ rb) (h2 : bx ≠ R) (h3 : tb ≠ R) : StW R rb (PtrSt w0 rb bx tb) :=
  ⟨fun vs w w' h k => ⟨k.below h.old hR h.old.size, h.tab.kb h.tlt h3 k, Nat.lt_of_lt_of_le h.tlt k.size, by rw [k.cell (lt_of_cell? h.box) h2]; exact h.box, h.rcd.kb k h1.symm, fun o ho => by rw [k.frozen h.rcd.lt h1.symm]; exact h.frz o ho⟩, fun vs w h => h.rcd.lt, h1⟩
theorem ptrSet {w0 w : World} {rb bx tb : Nat} {vs : List Val} {v : Val} {off : Nat} (h : PtrSt w0 rb bx tb vs w) (hl : w0.heap.size ≤ rb) (hb : bx ≠ rb) (ht : tb ≠ rb) (ho : off = vs.length) (ho4 : off < 4) : PtrSt w0 rb bx tb (vs ++ [v]) (setW w rb off (.int .i64 v.1) v.1 v.2) ∧ Kb rb w (setW w rb off (.int .i64 v.1) v.1 v.2) := by
  have k := setW_kb w rb off (.int .i64 v.1) v.1 v.2
  refine ⟨⟨k.below h.old hl h.old.size, h.tab.kb h.tlt ht k, Nat.lt_of_lt_of_le h.tlt k.size, setW_other h.box (.inl hb), ?_, fun o ho => by rw [setW_frozen h.rcd.lt]; exact h.frz o ho⟩, k⟩
  obtain ⟨q0, q1, q2, q3⟩ := h.rcd
  have e : ∀ i, vN (vs ++ [v]) i = if i = off then v.1 else vN vs i := fun i => by rw [vN_app, ho]
  have step : ∀ i (n : Int), w.cell? ⟨rb, i, none⟩ = some (.int .i64 n) → (setW w rb off (.int .i64 v.1) v.1 v.2).cell? ⟨rb, i, none⟩ = some (.int .i64 (if i = off then v.1 else n)) := fun i n hc => by
    by_cases hi : i = off
    · subst hi; rw [if_pos rfl]; exact setW_same hc
    · rw [if_neg hi]; exact setW_other hc (.inr hi)
  exact ⟨by rw [e]; exact step 0 _ q0, by rw [e]; exact step 1 _ q1, by rw [e]; exact step 2 _ q2, by rw [e]; exact step 3 _ q3⟩
theorem PtrSt.sets {w0 : World} {rb bx tb : Nat} (hl : w0.heap.size ≤ rb) (hb : bx ≠ rb) (ht : tb ≠ rb) : ∀ i (h : i < (ptrFDs bx).length) vs, vs.length = i → SetsAs (ptrFDs bx)[i] rb vs (PtrSt w0 rb bx tb) := by
  intro i hi vs hv v w hs
  have hx := lt_of_cell? hs.box
  have hr := hs.rcd.lt
  obtain ⟨q0, q1, q2, q3⟩ := hs.rcd
  match i, hi, hv with
  | 0, _, hv => exact (set_pointerTable_0 bx rb _ v.1 v.2 w hx hr hs.box q0 (hs.frz 0 (by omega))).mono fun e w' ⟨e1, e2⟩ => ⟨e1, by rw [e2]; exact ptrSet hs hl hb ht hv.symm (by omega)⟩
  | 1, _, hv => exact (set_pointerTable_1 bx rb _ v.1 v.2 w hx hr hs.box q1 (hs.frz 1 (by omega))).mono fun e w' ⟨e1, e2⟩ => ⟨e1, by rw [e2]; exact ptrSet hs hl hb ht hv.symm (by omega)⟩
  | 2, _, hv => exact (set_pointerTable_2 bx rb _ v.1 v.2 w hx hr hs.box q2 (hs.frz 2 (by omega))).mono fun e w' ⟨e1, e2⟩ => ⟨e1, by rw [e2]; exact ptrSet hs hl hb ht hv.symm (by omega)⟩
  | 3, _, hv => exact (set_pointerTable_3 bx rb _ v.1 v.2 w hx hr hs.box q3 (hs.frz 3 (by omega))).mono fun e w' ⟨e1, e2⟩ => ⟨e1, by rw [e2]; exact ptrSet hs hl hb ht hv.symm (by omega)⟩
theorem ptrFD_senters (bx : Nat) : ∀ i (h : i < (ptrFDs bx).length), Enters Tryz.prog (ptrFDs bx)[i].sf := by
  intro i hi
  match i, hi with
  | 0, _ => exact enters_of Tryz.func80 (by kernel_rfl) rfl
  | 1, _ => exact enters_of Tryz.func82 (by kernel_rfl) rfl
  | 2, _ => exact enters_of Tryz.func84 (by kernel_rfl) rfl
  | 3, _ => exact enters_of Tryz.func86 (by kernel_rfl) rfl
theorem ptrFD_reads (bx : Nat) : ∀ i (h : i < (ptrFDs bx).length), ReadsAs (ptrFDs bx)[i].sh := by
  intro i hi
  match i, hi with
  | 0, _ => exact reads_num
  | 1, _ => exact reads_num
  | 2, _ => exact reads_num
  | 3, _ => exact reads_num
/-- what ParsePointer answers -/
def ptrRd (tx : ByteArray) (i : Nat) : Int := vN (rpVs ptrTitle tx (ptrFDs 0)) i
def ptrPE (tx : ByteArray) : Int := rpE ptrTitle tx (ptrFDs 0) (ptrOk (ptrRd tx 0) (ptrRd tx 1) (ptrRd tx 2) (ptrRd tx 3))
def ptrPV (tx : ByteArray) (i : Nat) : Int := if ptrPE tx = 0 then ptrRd tx i else 0
set_option maxHeartbeats 4000000 in
set_option maxRecDepth 100000 in
theorem parsePointer_any (tx : ByteArray) (w : World) (htx : tx.size < 9223372036854775808) (hT4 : Tab4 0 w) :
    Calls Tryz.prog 15 #[.string tx] w fun x w' => x = .returned (.tuple #[.agg #[.int .i64 (ptrPV tx 0), .int .i64 (ptrPV tx 1), .int .i64 (ptrPV tx 2), .int .i64 (ptrPV tx 3)], .int .i64 (ptrPE tx)]) ∧ Below w.heap.size w w' := by
  obtain ⟨Wr, hWr⟩ : ∃ Wr, Wr = w.alloc (.cells #[.int .i64 0, .int .i64 0, .int .i64 0, .int .i64 0] 25) := ⟨_, rfl⟩
  have sr : Wr.heap.size = w.heap.size + 1 := by rw [hWr]; simp
  have br : Below w.heap.size w Wr := by rw [hWr]; exact (Below.refl _ w).alloc (Nat.le_refl _) _
  obtain ⟨W0, hW0⟩ : ∃ W0, W0 = Wr.alloc (.cells #[.int .i64 0, .int .i64 0, .int .i64 0, .int .i64 0] 25) := ⟨_, rfl⟩
  have b0 : Below Wr.heap.size Wr W0 := by rw [hW0]; exact (Below.refl _ _).alloc (Nat.le_refl _) _
  have s0 : W0.heap.size = Wr.heap.size + 1 := by rw [hW0]; simp
  have r0 : PtrAt W0 Wr.heap.size 0 0 0 0 := by rw [hW0]; exact ⟨by simp, by simp, by simp, by simp⟩
  have f0 : ∀ o, o < 4 → W0.frozen? ⟨Wr.heap.size, o, none⟩ = false := by
    rw [hW0]; intro o ho
    match o, ho with
    | 0, _ => simp
    | 1, _ => simp
    | 2, _ => simp
    | 3, _ => simp
  have T := hide (pointerTable_any Wr.heap.size W0)
  obtain ⟨W1, hW1⟩ : ∃ W1, W1 = tabW 78 Wr.heap.size (ptrFDs W0.heap.size) W0 := ⟨_, rfl⟩
  have b1 : Below W0.heap.size W0 W1 := by rw [hW1]; exact tabW_below _ _ _ _
  have s1 : W1.heap.size = W0.heap.size + 2 := by rw [hW1]; exact tabW_size _ _ _ _
  have S1 : PtrSt Wr Wr.heap.size W0.heap.size (W0.heap.size + 1) [] W1 := by
    refine ⟨b0.trans (b1.mono b0.size), by rw [hW1]; exact tabW_tab _ _ _ _, by omega, by rw [hW1]; exact tabW_box _ _ _ _, ?_, fun o ho => ?_⟩
    · exact r0.kb (Kb.of (R := W1.heap.size) b1) (by omega)
    · rw [b1.frozen (by show Wr.heap.size < _; omega)]; exact f0 o ho
  obtain ⟨gE, gV⟩ := rp_sig ptrTitle tx (ptrOk (ptrRd tx 0) (ptrRd tx 1) (ptrRd tx 2) (ptrRd tx 3)) (show (ptrFDs W0.heap.size).map FD.sig = (ptrFDs 0).map FD.sig from rfl)
  have hT4r := hT4.below br hT4.lt
  have C : Hid (Calls Tryz.prog 36 #[.string tx, .string ptrTitle, .slice (some ⟨W0.heap.size + 1, 0, none⟩) 4 4] W1 fun e w' => e = .returned (.int .i64 (ptrPE tx)) ∧ (ptrPE tx = 0 → PtrSt Wr Wr.heap.size W0.heap.size (W0.heap.size + 1) (rpVs ptrTitle tx (ptrFDs 0)) w') ∧ ∃ vs, PtrSt Wr Wr.heap.size W0.heap.size (W0.heap.size + 1) vs w') := by
    have := readPaper_any ptrTitle tx (W0.heap.size + 1) 4 Wr.heap.size (ptrFDs W0.heap.size) (PtrSt Wr Wr.heap.size W0.heap.size (W0.heap.size + 1)) W1 (PtrSt.ok (by omega) (by omega) (by omega) (by omega)) (by show 4 ≤ 64; omega) (fun vs w h => ⟨h.tab, h.tlt⟩) (PtrSt.sets (Nat.le_refl _) (by omega) (by omega)) (ptrFD_senters _) (ptrFD_reads _) (ptrFD_enters _) (ptrV (ptrRd tx 0) (ptrRd tx 1) (ptrRd tx 2) (ptrRd tx 3)) (fun _ => ⟨#[]⟩) (ptrOkI (ptrRd tx 0) (ptrRd tx 1) (ptrRd tx 2) (ptrRd tx 3))
      (fun w' h => by rw [gV] at h; exact ptrFD_gets _ _ _ _ _ _ w' (lt_of_cell? h.box) h.rcd.lt h.box h.rcd) (ptrFD_allows _ _ _ _ _) S1 htx (fun vs w h => hT4r.below h.old hT4r.lt)
    rw [show allB (ptrFDs W0.heap.size).length (ptrOkI (ptrRd tx 0) (ptrRd tx 1) (ptrRd tx 2) (ptrRd tx 3)) = ptrOk (ptrRd tx 0) (ptrRd tx 1) (ptrRd tx 2) (ptrRd tx 3) from ptrOk_all _ _ _ _, gE, gV] at this
    exact this
  -- the place of the answer
  have RS : Hid (∀ w', Below Wr.heap.size Wr w' → (w'.cell? ⟨w.heap.size, 0, none⟩ = some (.int .i64 0) ∧ w'.cell? ⟨w.heap.size, 1, none⟩ = some (.int .i64 0) ∧ w'.cell? ⟨w.heap.size, 2, none⟩ = some (.int .i64 0) ∧ w'.cell? ⟨w.heap.size, 3, none⟩ = some (.int .i64 0)) ∧ (w'.frozen? ⟨w.heap.size, 0, none⟩ = false ∧ w'.frozen? ⟨w.heap.size, 1, none⟩ = false ∧ w'.frozen? ⟨w.heap.size, 2, none⟩ = false ∧ w'.frozen? ⟨w.heap.size, 3, none⟩ = false) ∧ w.heap.size < w'.heap.size) := fun w' hb => by
    have hl : w.heap.size < Wr.heap.size := by omega
    rw [hb.cell (by exact hl), hb.cell (by exact hl), hb.cell (by exact hl), hb.cell (by exact hl), hb.frozen (by exact hl), hb.frozen (by exact hl), hb.frozen (by exact hl), hb.frozen (by exact hl)]
    refine ⟨?_, ?_, Nat.lt_of_lt_of_le hl hb.size⟩
    · rw [hWr]; exact ⟨by simp, by simp, by simp, by simp⟩
    · rw [hWr]; exact ⟨by simp, by simp, by simp, by simp⟩
  have BR := hide br
  have PV : Hid (ptrPE tx = 0 → ∀ i, ptrPV tx i = vN (rpVs ptrTitle tx (ptrFDs 0)) i) := fun h i => by unfold ptrPV; rw [if_pos h]; rfl
  have PZ : Hid (¬ ptrPE tx = 0 → ∀ i, ptrPV tx i = 0) := fun h i => by unfold ptrPV; rw [if_neg h]
  generalize rpVs ptrTitle tx (ptrFDs 0) = VS at C PV
  unfold ptrTitle at C
  have hsr : Wr.heap.size = w.heap.size + 1 := sr
  rw [hsr] at T hW1
  clear gE gV hT4r S1 s1 b1 f0 r0 s0 b0 br hT4 sr
  obtain ⟨PE, hPE⟩ : ∃ PE, PE = ptrPE tx := ⟨_, rfl⟩
  obtain ⟨A0, hA0⟩ : ∃ A, A = ptrPV tx 0 := ⟨_, rfl⟩
  obtain ⟨A1, hA1⟩ : ∃ A, A = ptrPV tx 1 := ⟨_, rfl⟩
  obtain ⟨A2, hA2⟩ : ∃ A, A = ptrPV tx 2 := ⟨_, rfl⟩
  obtain ⟨A3, hA3⟩ : ∃ A, A = ptrPV tx 3 := ⟨_, rfl⟩
  rw [← hPE] at C PV PZ
  rw [← hPE, ← hA0, ← hA1, ← hA2, ← hA3]
  have PV2 : Hid (PE = 0 → A0 = vN VS 0 ∧ A1 = vN VS 1 ∧ A2 = vN VS 2 ∧ A3 = vN VS 3) := fun h => by rw [hA0, hA1, hA2, hA3]; exact ⟨PV.out h 0, PV.out h 1, PV.out h 2, PV.out h 3⟩
  have PZ2 : Hid (¬ PE = 0 → A0 = 0 ∧ A1 = 0 ∧ A2 = 0 ∧ A3 = 0) := fun h => by rw [hA0, hA1, hA2, hA3]; exact ⟨PZ.out h 0, PZ.out h 1, PZ.out h 2, PZ.out h 3⟩
  clear hPE hA0 hA1 hA2 hA3 PV PZ
  have HSR := hide hsr
  clear hsr
  by_cases hz : PE = 0
  · subst hz
    obtain ⟨p0, p1, p2, p3⟩ := PV2.out rfl
    go_enter Tryz.func15, Tryz.ntmps15
    go_wp2_with fail
    rw [← hWr, ← hW0]
    clear hWr hW0
    refine Calls.mono T.out ?_
    rintro x w2 ⟨rfl, rfl⟩
    rw [← hW1]
    clear hW1
    go_wp2_with fail
    refine Calls.mono C.out ?_
    rintro x w3 ⟨rfl, d1, d2⟩
    have s3 := d1 trivial
    obtain ⟨⟨z0, z1, z2, z3⟩, ⟨f0, f1, f2, f3⟩, hl3⟩ := RS.out w3 s3.old
    obtain ⟨q0, q1, q2, q3⟩ := s3.rcd
    rw [HSR.out, ← p0] at q0
    rw [HSR.out, ← p1] at q1
    rw [HSR.out, ← p2] at q2
    rw [HSR.out, ← p3] at q3
    have B3 := hide (BR.out.trans (s3.old.mono BR.out.size))
    clear d1 d2 C T RS p0 p1 p2 p3 PV2 PZ2 s3
    go_wp2_with fail
    refine bodyPost_ret (v := .tuple #[.agg #[.int .i64 A0, .int .i64 A1, .int .i64 A2, .int .i64 A3], .int .i64 0]) (by simp [results, Tryz.results15, go_sem, z0, z1, z2, z3]) rfl ⟨rfl, ?_⟩
    exact (((B3.out.setCell (Nat.le_refl _) _).setCell (Nat.le_refl _) _).setCell (Nat.le_refl _) _).setCell (Nat.le_refl _) _
  · obtain ⟨p0, p1, p2, p3⟩ := PZ2.out hz
    subst p0 p1 p2 p3
    have hz2 : (PE == 0) = false := by simpa using hz
    go_enter Tryz.func15, Tryz.ntmps15
    go_wp2_with fail
    rw [← hWr, ← hW0]
    clear hWr hW0
    refine Calls.mono T.out ?_
    rintro x w2 ⟨rfl, rfl⟩
    rw [← hW1]
    clear hW1
    go_wp2_with fail
    refine Calls.mono C.out ?_
    rintro x w3 ⟨rfl, d1, vs2, s3⟩
    obtain ⟨⟨z0, z1, z2, z3⟩, ⟨f0, f1, f2, f3⟩, hl3⟩ := RS.out w3 s3.old
    have B3 := hide (BR.out.trans (s3.old.mono BR.out.size))
    clear d1 C T RS PV2 PZ2 s3
    go_wp2_with fail
    refine bodyPost_ret (v := .tuple #[.agg #[.int .i64 0, .int .i64 0, .int .i64 0, .int .i64 0], .int .i64 PE]) (by simp [results, Tryz.results15, go_sem, z0, z1, z2, z3]) rfl ⟨rfl, ?_⟩
    exact (((B3.out.setCell (Nat.le_refl _) _).setCell (Nat.le_refl _) _).setCell (Nat.le_refl _) _).setCell (Nat.le_refl _) _
end Go.Proofs.YtfpalfpfijcpbaaGreatDoor
namespace Go.Proofs.YtfpalfpfijcpbaaGreatDoor
open Go.RowKit Go.Shelf
theorem take1_data (t : ByteArray) : (t.extract 0 1).data.toList = t.data.toList.take 1 := by rw [Lib.extract_data]; simp
set_option maxHeartbeats 1000000 in
set_option maxRecDepth 100000 in
theorem isStore_any (t : ByteArray) (w : World) (hs : t.size ≤ 9223372036854775807) :
    Calls Tryz.prog 147 #[.string t] w fun e w' => e = .returned (.bool (decide (t.size ≤ 40) && isSt t.data.toList)) ∧ Below w.heap.size w w' := by
  by_cases h0 : t.size = 0
  · have e1 : isSt t.data.toList = false := by
      have : t.data.toList = [] := List.length_eq_zero_iff.1 (by rw [size_data]; exact h0)
      rw [this]; rfl
    rw [e1, Bool.and_false]
    have e2 : t = ⟨#[]⟩ := ByteArray.ext (Array.toList_inj.1 (by rw [List.length_eq_zero_iff.1 (show t.data.toList.length = 0 by rw [size_data]; exact h0)]))
    subst e2
    go_enter Tryz.func147, Tryz.ntmps147
    go_wp2_with fail
    go_ret
    exact ⟨rfl, Below.refl _ _⟩
  · have hne : ¬ t = ⟨#[]⟩ := fun e => h0 (by rw [e]; rfl)
    have hne2 : t.toList.isEmpty = false := by
      rw [toList_data]
      cases hd : t.data.toList with
      | nil => exact absurd (by rw [← size_data, hd]; rfl) h0
      | cons a b => rfl
    have hsz : 1 ≤ t.size := by omega
    have hsz' : (1 : Int) ≤ (t.size : Int) := by omega
    by_cases h40 : 40 < t.size
    · rw [decide_eq_false (by omega), Bool.false_and]
      have h40' : ¬ (t.size : Int) ≤ 40 := by omega
      have h40'' : (40 : Int) < (t.size : Int) := by omega
      go_enter Tryz.func147, Tryz.ntmps147
      go_wp2_with fail
      go_ret
      exact ⟨rfl, Below.refl _ _⟩
    have h40' : (t.size : Int) ≤ 40 := by omega
    have h40'' : ¬ (40 : Int) < (t.size : Int) := by omega
    rw [decide_eq_true (by omega : t.size ≤ 40), Bool.true_and]
    have C1 := hide (fun w' => isOf_any (t.extract 0 1) ltL w' (by rw [ByteArray.size_extract]; omega))
    have C2 := hide (fun w' => isOf_any t stL w' hs)
    rw [take1_data] at C1
    have HE : Hid (isSt t.data.toList = (allOf (t.data.toList.take 1) ltL && allOf t.data.toList stL)) := by
      show _ = _
      unfold isSt
      have : t.data.toList.isEmpty = false := by
        cases hd : t.data.toList with
        | nil => exact absurd (by rw [← size_data, hd]; rfl) h0
        | cons a b => rfl
      rw [this]; rfl
    obtain ⟨E, hE⟩ : ∃ E, E = isSt t.data.toList := ⟨_, rfl⟩
    rw [← hE] at HE ⊢
    unfold ltL at C1 HE
    unfold stL at C2 HE
    generalize allOf (t.data.toList.take 1) _ = A at *
    generalize allOf t.data.toList _ = B at *
    clear hE h0
    cases hA : A with
    | false =>
      rw [hA] at C1 HE
      go_enter Tryz.func147, Tryz.ntmps147
      go_wp2_with fail
      refine Calls.mono (C1.out _) ?_
      rintro e w1 ⟨rfl, rfl⟩
      go_wp2_with fail
      go_ret
      exact ⟨ret_bool HE.out.symm, Below.refl _ _⟩
    | true =>
      rw [hA] at C1 HE
      go_enter Tryz.func147, Tryz.ntmps147
      go_wp2_with fail
      refine Calls.mono (C1.out _) ?_
      rintro e w1 ⟨rfl, rfl⟩
      go_wp2_with fail
      refine Calls.mono (C2.out _) ?_
      rintro e w1 ⟨rfl, rfl⟩
      go_wp2_with fail
      go_ret
      exact ⟨ret_bool HE.out.symm, Below.refl _ _⟩
/-- a store's name that may be -/
def stOk (t : ByteArray) (lo hi : Int) : Bool := inR (t.size : Int) lo hi && isSt t.data.toList
set_option maxHeartbeats 1000000 in
set_option maxRecDepth 100000 in
theorem allows_store (n lo hi : Int) (hh : hi ≤ 40) (t : ByteArray) (w : World) (ht : t.size ≤ 9223372036854775807) :
    Calls Tryz.prog 97 #[.int .i64 4, .agg #[.int .i64 n, .string t], .int .i64 lo, .int .i64 hi] w fun e w' => e = .returned (.bool (stOk t lo hi)) ∧ Below w.heap.size w w' := by
  have hb : Below w.heap.size w (w.alloc (.cells #[.int .i64 n, .string t] 120)) := (Below.refl _ _).alloc (Nat.le_refl _) _
  have C := hide (fun w' => isStore_any t w' ht)
  obtain ⟨E, hE⟩ : ∃ E, E = stOk t lo hi := ⟨_, rfl⟩
  unfold stOk inR at hE
  rw [show stOk t lo hi = E by rw [hE]; rfl]
  have HE := hide hE
  clear hE
  generalize isSt t.data.toList = S at *
  by_cases h1 : (t.size : Int) < lo
  · go_enter Tryz.func97, Tryz.ntmps97
    go_wp2_with (go_at_call 145; refine Calls.mono (isNumeric_any _ _) ?_; rintro e w' ⟨rfl, rfl⟩)
    go_ret
    exact ⟨ret_bool (by rw [HE.out, decide_eq_false (by omega)]; rfl), hb⟩
  · by_cases h2 : hi < (t.size : Int)
    · go_enter Tryz.func97, Tryz.ntmps97
      go_wp2_with (go_at_call 145; refine Calls.mono (isNumeric_any _ _) ?_; rintro e w' ⟨rfl, rfl⟩)
      go_ret
      exact ⟨ret_bool (by rw [HE.out, decide_eq_false (p := (t.size : Int) ≤ hi) (by omega)]; simp), hb⟩
    · have HB := hide hb
      clear hb
      go_enter Tryz.func97, Tryz.ntmps97
      go_wp2_with (go_at_call 145; refine Calls.mono (isNumeric_any _ _) ?_; rintro e w' ⟨rfl, rfl⟩)
      refine Calls.mono (C.out _) ?_
      rintro e w1 ⟨rfl, b1⟩
      have B1 := hide (HB.out.trans (b1.mono HB.out.size))
      clear b1
      go_wp2_with fail
      go_ret
      exact ⟨ret_bool (by rw [HE.out, decide_eq_true (p := t.size ≤ 40) (by omega), decide_eq_true (p := lo ≤ (t.size : Int)) (by omega), decide_eq_true (p := (t.size : Int) ≤ hi) (by omega)]; rfl), B1.out⟩
set_option maxHeartbeats 1000000 in
set_option maxRecDepth 100000 in
theorem print_text (s : Int) (hs : s = 3 ∨ s = 4) (n : Int) (t : ByteArray) (w : World) :
    Calls Tryz.prog 100 #[.int .i64 s, .agg #[.int .i64 n, .string t]] w fun e w' => e = .returned (.string t) ∧ Below w.heap.size w w' := by
  have hb : Hid (Below w.heap.size w (w.alloc (.cells #[.int .i64 n, .string t] 120))) := (Below.refl _ _).alloc (Nat.le_refl _) _
  rcases hs with rfl | rfl
  · go_enter Tryz.func100, Tryz.ntmps100
    go_wp2_with fail
    go_ret
    exact ⟨rfl, hb.out⟩
  · go_enter Tryz.func100, Tryz.ntmps100
    go_wp2_with fail
    go_ret
    exact ⟨rfl, hb.out⟩
set_option maxHeartbeats 1000000 in
set_option maxRecDepth 100000 in
theorem reads_word : ReadsAs 4 := fun s w hs => by
  have e3 : (!s.toList.isEmpty) = !s.data.toList.isEmpty := by rw [toList_data]
  rw [show rdN 4 s.data.toList = 0 from rfl, show rdT 4 s.data.toList = s from strOf_toList s, show rdOk 4 s.data.toList = !s.data.toList.isEmpty from rfl, ← e3]
  clear e3
  go_enter Tryz.func113, Tryz.ntmps113
  go_wp2_with fail
  exact bodyPost_ret (v := .tuple #[.agg #[.int .i64 0, .string s], .bool (!s.toList.isEmpty)]) (by simp [results, Tryz.results113, go_sem]) rfl ⟨rfl, (Below.refl _ _).alloc (Nat.le_refl _) _⟩
end Go.Proofs.YtfpalfpfijcpbaaGreatDoor
