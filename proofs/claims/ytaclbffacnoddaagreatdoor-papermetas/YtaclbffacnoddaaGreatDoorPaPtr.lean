import Derived.Test.YtaclbffacnoddaaGreatDoorPart9
namespace Go.Proofs.YtaclbffacnoddaaGreatDoor
open Go.RowKit Go.Shelf
def bxv (bx : Nat) : Array Value := #[.pointer (some ⟨bx, 0, none⟩)]
def ptrFDs (bx : Nat) : List FD := [⟨⟨#[99, 117, 114, 32]⟩, 0, 0, 999999, 52, 53, bxv bx, nl⟩, ⟨⟨#[112, 114, 101, 118, 32]⟩, 0, 0, 999999, 54, 55, bxv bx, nl⟩, ⟨⟨#[101, 112, 111, 99, 104, 32]⟩, 0, 0, 9007199254740992, 56, 57, bxv bx, nl⟩, ⟨⟨#[115, 101, 113, 32]⟩, 0, 0, 9007199254740992, 58, 59, bxv bx, nl⟩]
set_option maxHeartbeats 2000000 in
set_option maxRecDepth 100000 in
theorem pointerTable_any (rb : Nat) (w : World) :
    Calls Tryz.prog 23 #[.pointer (some ⟨rb, 0, none⟩)] w fun e w' => e = .returned (.slice (some ⟨w.heap.size + 1, 0, none⟩) 4 4) ∧ w' = tabW 57 rb (ptrFDs w.heap.size) w := by
  have hmf : ∀ (fn : Fn) (first cap : Array Value) (w : World), (Instr.makeFunc fn first cap).run Tryz.prog w = .ok (.func fn first cap) w := fun _ _ _ _ => rfl
  go_enter Tryz.func23, Tryz.ntmps23
  go_wp2_with fail
  go_ret
  exact ⟨rfl, rfl⟩
/-- a pointer's four numbers -/
def ptrV (c p e s : Int) : Nat → Int
  | 0 => c
  | 1 => p
  | 2 => e
  | _ => s
def ptrHi : Nat → Int
  | 0 => 999999
  | 1 => 999999
  | 2 => 9007199254740992
  | _ => 9007199254740992
def ptrOkI (c p e s : Int) (i : Nat) : Bool := inR (ptrV c p e s i) 0 (ptrHi i)
def ptrOk (c p e s : Int) : Bool := inR c 0 999999 && inR p 0 999999 && inR e 0 9007199254740992 && inR s 0 9007199254740992
theorem ptrOk_all (c p e s : Int) : allB 4 (ptrOkI c p e s) = ptrOk c p e s := by
  unfold allB ptrOk
  simp [List.range, List.range.loop, ptrOkI, ptrV, ptrHi, Bool.and_assoc]
def itS (n : Int) : ByteArray := strOf (Lib.itoa n)
/-- the rows of a pointer -/
def ptrL (c p e s : Int) : List UInt8 := [99, 117, 114, 32] ++ Lib.itoa c ++ [10] ++ ([112, 114, 101, 118, 32] ++ Lib.itoa p ++ [10]) ++ ([101, 112, 111, 99, 104, 32] ++ Lib.itoa e ++ [10]) ++ ([115, 101, 113, 32] ++ Lib.itoa s ++ [10])
theorem ptrL_wr (bx : Nat) (c p e s : Int) : wrL (ptrFDs bx) (fun i => itS (ptrV c p e s i)) 4 = ptrL c p e s := rfl
theorem ptrFD_enters (bx : Nat) : ∀ i (h : i < (ptrFDs bx).length), Enters Tryz.prog (ptrFDs bx)[i].gf := by
  intro i hi
  match i, hi with
  | 0, _ => exact enters_of Tryz.func52 (by kernel_rfl) rfl
  | 1, _ => exact enters_of Tryz.func54 (by kernel_rfl) rfl
  | 2, _ => exact enters_of Tryz.func56 (by kernel_rfl) rfl
  | 3, _ => exact enters_of Tryz.func58 (by kernel_rfl) rfl
/-- the record of a pointer, in memory -/
def PtrAt (w : World) (rb : Nat) (c p e s : Int) : Prop := w.cell? ⟨rb, 0, none⟩ = some (.int .i64 c) ∧ w.cell? ⟨rb, 1, none⟩ = some (.int .i64 p) ∧ w.cell? ⟨rb, 2, none⟩ = some (.int .i64 e) ∧ w.cell? ⟨rb, 3, none⟩ = some (.int .i64 s)
theorem ptrFD_gets (rb bx : Nat) (c p e s : Int) (w : World) (hx : bx < w.heap.size) (hr : rb < w.heap.size) (h1 : w.cell? ⟨bx, 0, none⟩ = some (.pointer (some ⟨rb, 0, none⟩))) (h2 : PtrAt w rb c p e s) : ∀ i (h : i < (ptrFDs bx).length), GetsAt w (ptrFDs bx)[i] (ptrV c p e s i) ⟨#[]⟩ := by
  intro i hi w' hw
  have z := hw.size
  obtain ⟨q0, q1, q2, q3⟩ := h2
  have hb : w'.cell? ⟨bx, 0, none⟩ = some (.pointer (some ⟨rb, 0, none⟩)) := by rw [hw.cell (by exact hx)]; exact h1
  match i, hi with
  | 0, _ => exact get_pointerTable_0 bx rb c w' (by omega) (by omega) hb (by rw [hw.cell (by exact hr)]; exact q0)
  | 1, _ => exact get_pointerTable_1 bx rb p w' (by omega) (by omega) hb (by rw [hw.cell (by exact hr)]; exact q1)
  | 2, _ => exact get_pointerTable_2 bx rb e w' (by omega) (by omega) hb (by rw [hw.cell (by exact hr)]; exact q2)
  | 3, _ => exact get_pointerTable_3 bx rb s w' (by omega) (by omega) hb (by rw [hw.cell (by exact hr)]; exact q3)
theorem ptrFD_allows (bx : Nat) (c p e s : Int) : ∀ i (h : i < (ptrFDs bx).length), AllowsIs (ptrFDs bx)[i] (ptrV c p e s i) ⟨#[]⟩ (ptrOkI c p e s i) := by
  intro i hi w'
  match i, hi with
  | 0, _ => exact allows_num 0 (.inl rfl) c 0 999999 _ w'
  | 1, _ => exact allows_num 0 (.inl rfl) p 0 999999 _ w'
  | 2, _ => exact allows_num 0 (.inl rfl) e 0 9007199254740992 _ w'
  | 3, _ => exact allows_num 0 (.inl rfl) s 0 9007199254740992 _ w'
def I64 (n : Int) : Prop := -9223372036854775808 ≤ n ∧ n ≤ 9223372036854775807
def Pow (w : World) : Prop := Lib.TabIs Tryz.prog w "internal/strconv.uint64pow10" .u64 Lib.pow10Tab
theorem Pow.below {w w' : World} (h : Pow w) (hb : Below w.heap.size w w') : Pow w' := Lib.tabBelow_of_tabIs h w' hb
theorem ptrV_i64 {c p e s : Int} (hc : I64 c) (hp : I64 p) (he : I64 e) (hs : I64 s) (i : Nat) : I64 (ptrV c p e s i) := by
  match i with
  | 0 => exact hc
  | 1 => exact hp
  | 2 => exact he
  | _ + 3 => exact hs
theorem ptrFD_prints (bx : Nat) (c p e s : Int) (hv : ∀ i, I64 (ptrV c p e s i)) (w : World) (hP : Pow w) : ∀ i (h : i < (ptrFDs bx).length), PrintsAt w (ptrFDs bx)[i] (ptrV c p e s i) ⟨#[]⟩ (itS (ptrV c p e s i)) := by
  intro i hi w' hw
  have hsh : (ptrFDs bx)[i].sh = 0 := by
    match i, hi with
    | 0, _ => rfl
    | 1, _ => rfl
    | 2, _ => rfl
    | 3, _ => rfl
  rw [hsh]
  exact print_num (ptrV c p e s i) _ w' (hv i).1 (hv i).2 (hP.below hw)
theorem ptrFD_small (bx : Nat) : ∀ i (h : i < (ptrFDs bx).length), (ptrFDs bx)[i].wd.size ≤ 1000 ∧ (ptrFDs bx)[i].en.size ≤ 1000 := by
  intro i hi
  match i, hi with
  | 0, _ => exact ⟨Nat.le_of_ble_eq_true rfl, Nat.le_of_ble_eq_true rfl⟩
  | 1, _ => exact ⟨Nat.le_of_ble_eq_true rfl, Nat.le_of_ble_eq_true rfl⟩
  | 2, _ => exact ⟨Nat.le_of_ble_eq_true rfl, Nat.le_of_ble_eq_true rfl⟩
  | 3, _ => exact ⟨Nat.le_of_ble_eq_true rfl, Nat.le_of_ble_eq_true rfl⟩
def ptrTitle : ByteArray := ⟨#[103, 114, 97, 110, 97, 114, 121, 32, 108, 97, 116, 101, 115, 116, 32, 49, 10]⟩
def ptrS (c p e s : Int) : ByteArray := if ptrOk c p e s then paperS ptrTitle (ptrL c p e s) else ⟨#[]⟩
def ptrE (c p e s : Int) : Int := if ptrOk c p e s then 0 else 42
set_option maxHeartbeats 2000000 in
set_option maxRecDepth 100000 in
theorem printPointer_any (c p e s : Int) (hc : I64 c) (hp : I64 p) (he : I64 e) (hs : I64 s) (w : World) (hP : Pow w) (hT4 : Tab4 0 w) :
    Calls Tryz.prog 10 #[.agg #[.int .i64 c, .int .i64 p, .int .i64 e, .int .i64 s]] w fun x w' => x = .returned (.tuple #[.string (ptrS c p e s), .int .i64 (ptrE c p e s)]) ∧ Below w.heap.size w w' := by
  obtain ⟨W0, hW0⟩ : ∃ W0, W0 = w.alloc (.cells #[.int .i64 c, .int .i64 p, .int .i64 e, .int .i64 s] 25) := ⟨_, rfl⟩
  have b0 : Below w.heap.size w W0 := by rw [hW0]; exact (Below.refl _ w).alloc (Nat.le_refl _) _
  have s0 : W0.heap.size = w.heap.size + 1 := by rw [hW0]; simp
  have r0 : PtrAt W0 w.heap.size c p e s := by rw [hW0]; exact ⟨by simp, by simp, by simp, by simp⟩
  have T := hide (pointerTable_any w.heap.size W0)
  obtain ⟨W1, hW1⟩ : ∃ W1, W1 = tabW 57 w.heap.size (ptrFDs W0.heap.size) W0 := ⟨_, rfl⟩
  have b1 : Below W0.heap.size W0 W1 := by rw [hW1]; exact tabW_below _ _ _ _
  have s1 : W1.heap.size = W0.heap.size + 2 := by rw [hW1]; exact tabW_size _ _ _ _
  have t1 : TabAt (W0.heap.size + 1) W1 (ptrFDs W0.heap.size) := by rw [hW1]; exact tabW_tab _ _ _ _
  have x1 : W1.cell? ⟨W0.heap.size, 0, none⟩ = some (.pointer (some ⟨w.heap.size, 0, none⟩)) := by rw [hW1]; exact tabW_box _ _ _ _
  have r1 : PtrAt W1 w.heap.size c p e s := by
    obtain ⟨q0, q1, q2, q3⟩ := r0
    have hl : w.heap.size < W0.heap.size := by omega
    exact ⟨by rw [b1.cell (by exact hl)]; exact q0, by rw [b1.cell (by exact hl)]; exact q1, by rw [b1.cell (by exact hl)]; exact q2, by rw [b1.cell (by exact hl)]; exact q3⟩
  have bb := b0.trans (b1.mono b0.size)
  have G := ptrFD_gets w.heap.size W0.heap.size c p e s W1 (by omega) (by omega) x1 r1
  have hv := ptrV_i64 hc hp he hs
  have C : Hid (Calls Tryz.prog 20 #[.string ptrTitle, .slice (some ⟨W0.heap.size + 1, 0, none⟩) 4 4] W1 fun x w' => x = .returned (.tuple #[.string (ptrS c p e s), .int .i64 (ptrE c p e s)]) ∧ Below W1.heap.size W1 w') := by
    by_cases hok : ptrOk c p e s = true
    · have := printPaper_ok ptrTitle (W0.heap.size + 1) 4 (ptrFDs W0.heap.size) W1 (ptrV c p e s) (fun _ => ⟨#[]⟩) (ptrOkI c p e s) (fun i => itS (ptrV c p e s i)) 20 (by omega) (by decide) (by show 4 ≤ 64; omega) t1 (by omega) (ptrFD_enters _) G (ptrFD_allows _ c p e s) (by show allB 4 _ = true; rw [ptrOk_all]; exact hok) (ptrFD_prints _ c p e s hv W1 (hP.below bb)) (ptrFD_small _) (fun i => by unfold itS; rw [strOf_size]; exact itoa_len _ (hv i).1 (hv i).2) (hT4.below bb hT4.lt)
      have e1 : ptrS c p e s = paperS ptrTitle (wrL (ptrFDs W0.heap.size) (fun i => itS (ptrV c p e s i)) (ptrFDs W0.heap.size).length) := by unfold ptrS; rw [if_pos hok]; rfl
      have e2 : ptrE c p e s = 0 := by unfold ptrE; rw [if_pos hok]
      rw [e1, e2]
      exact this
    · have := printPaper_no ptrTitle (W0.heap.size + 1) 4 (ptrFDs W0.heap.size) W1 (ptrV c p e s) (fun _ => ⟨#[]⟩) (ptrOkI c p e s) (by show 4 ≤ 64; omega) t1 (by omega) (ptrFD_enters _) G (ptrFD_allows _ c p e s) (by show allB 4 _ = false; rw [ptrOk_all]; simpa using hok)
      have e1 : ptrS c p e s = ⟨#[]⟩ := by unfold ptrS; rw [if_neg hok]
      have e2 : ptrE c p e s = 42 := by unfold ptrE; rw [if_neg hok]
      rw [e1, e2]
      exact this
  have BB := hide bb
  unfold ptrTitle at C
  clear G hP hT4 r0 r1 t1 x1 b0 b1 bb s1 s0 hv hc hp he hs
  go_enter Tryz.func10, Tryz.ntmps10
  go_wp2_with fail
  rw [← hW0]
  clear hW0
  refine Calls.mono T.out ?_
  rintro x w2 ⟨rfl, rfl⟩
  rw [← hW1]
  clear hW1
  go_wp2_with fail
  refine Calls.mono C.out ?_
  rintro x w3 ⟨rfl, b3⟩
  have B3 := hide (BB.out.trans (b3.mono BB.out.size))
  clear b3 C T
  go_wp2
  go_ret2
  exact ⟨rfl, B3.out⟩
end Go.Proofs.YtaclbffacnoddaaGreatDoor
