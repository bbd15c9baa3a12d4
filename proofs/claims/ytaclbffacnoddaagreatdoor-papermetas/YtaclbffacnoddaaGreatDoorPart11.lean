import Derived.Test.YtaclbffacnoddaaGreatDoorPart8
import Derived.Test.YtaclbffacnoddaaGreatDoorPaPtr
import Derived.Laws.OwnMore
import Derived.Lib.Split
import Derived.Deep.QuietTactic
import Derived.BigQuiet
import Derived.Deep.RegionHeld3
namespace Go.Proofs.YtaclbffacnoddaaGreatDoor
open Go.RowKit Go.Shelf
def bl : ByteArray := ⟨#[32]⟩
def noteFDs (bx : Nat) : List FD := [⟨⟨#[]⟩, 0, 1, 4, 60, 61, bxv bx, bl⟩, ⟨⟨#[]⟩, 0, 0, 9007199254740992, 62, 63, bxv bx, bl⟩, ⟨⟨#[]⟩, 0, 0, 9007199254740992, 64, 65, bxv bx, bl⟩, ⟨⟨#[]⟩, 1, 0, 4294967295, 66, 67, bxv bx, bl⟩]
set_option maxHeartbeats 2000000 in
set_option maxRecDepth 100000 in
theorem noteTable_any (rb : Nat) (w : World) :
    Calls Tryz.prog 24 #[.pointer (some ⟨rb, 0, none⟩)] w fun e w' => e = .returned (.slice (some ⟨w.heap.size + 1, 0, none⟩) 4 4) ∧ w' = tabW 59 rb (noteFDs w.heap.size) w := by
  have hmf : ∀ (fn : Fn) (first cap : Array Value) (w : World), (Instr.makeFunc fn first cap).run Tryz.prog w = .ok (.func fn first cap) w := fun _ _ _ _ => rfl
  go_enter Tryz.func24, Tryz.ntmps24
  go_wp2_with fail
  go_ret
  exact ⟨rfl, rfl⟩
/-- a note's four numbers -/
def noteV (c p e s : Int) : Nat → Int
  | 0 => c
  | 1 => p
  | 2 => e
  | _ => s
def noteLo : Nat → Int
  | 0 => 1
  | _ => 0
def noteHi : Nat → Int
  | 0 => 4
  | 1 => 9007199254740992
  | 2 => 9007199254740992
  | _ => 4294967295
def noteOkI (c p e s : Int) (i : Nat) : Bool := inR (noteV c p e s i) (noteLo i) (noteHi i)
def noteOk (c p e s : Int) : Bool := inR c 1 4 && inR p 0 9007199254740992 && inR e 0 9007199254740992 && inR s 0 4294967295
theorem noteOk_all (c p e s : Int) : allB 4 (noteOkI c p e s) = noteOk c p e s := by
  unfold allB noteOk
  simp [List.range, List.range.loop, noteOkI, noteV, noteLo, noteHi, Bool.and_assoc]
/-- what a note's fields print as -/
def noteO (c p e s : Int) : Nat → ByteArray
  | 0 => itS c
  | 1 => itS p
  | 2 => itS e
  | _ => strOf (hexL (be4 s.toNat))
/-- a note's line without its sum -/
def noteL (c p e s : Int) : List UInt8 := [] ++ Lib.itoa c ++ [32] ++ ([] ++ Lib.itoa p ++ [32]) ++ ([] ++ Lib.itoa e ++ [32]) ++ ([] ++ hexL (be4 s.toNat) ++ [32])
theorem noteL_wr (bx : Nat) (c p e s : Int) : wrL (noteFDs bx) (noteO c p e s) 4 = noteL c p e s := rfl
theorem noteFD_enters (bx : Nat) : ∀ i (h : i < (noteFDs bx).length), Enters Tryz.prog (noteFDs bx)[i].gf := by
  intro i hi
  match i, hi with
  | 0, _ => exact enters_of Tryz.func60 (by kernel_rfl) rfl
  | 1, _ => exact enters_of Tryz.func62 (by kernel_rfl) rfl
  | 2, _ => exact enters_of Tryz.func64 (by kernel_rfl) rfl
  | 3, _ => exact enters_of Tryz.func66 (by kernel_rfl) rfl
/-- the record of a note, in memory -/
def NoteAt (w : World) (rb : Nat) (c p e s : Int) : Prop := w.cell? ⟨rb, 0, none⟩ = some (.int .i64 c) ∧ w.cell? ⟨rb, 1, none⟩ = some (.int .i64 p) ∧ w.cell? ⟨rb, 2, none⟩ = some (.int .i64 e) ∧ w.cell? ⟨rb, 3, none⟩ = some (.int .i64 s)
theorem noteFD_gets (rb bx : Nat) (c p e s : Int) (w : World) (hx : bx < w.heap.size) (hr : rb < w.heap.size) (h1 : w.cell? ⟨bx, 0, none⟩ = some (.pointer (some ⟨rb, 0, none⟩))) (h2 : NoteAt w rb c p e s) : ∀ i (h : i < (noteFDs bx).length), GetsAt w (noteFDs bx)[i] (noteV c p e s i) ⟨#[]⟩ := by
  intro i hi w' hw
  have z := hw.size
  obtain ⟨q0, q1, q2, q3⟩ := h2
  have hb : w'.cell? ⟨bx, 0, none⟩ = some (.pointer (some ⟨rb, 0, none⟩)) := by rw [hw.cell (by exact hx)]; exact h1
  match i, hi with
  | 0, _ => exact get_noteTable_0 bx rb c w' (by omega) (by omega) hb (by rw [hw.cell (by exact hr)]; exact q0)
  | 1, _ => exact get_noteTable_1 bx rb p w' (by omega) (by omega) hb (by rw [hw.cell (by exact hr)]; exact q1)
  | 2, _ => exact get_noteTable_2 bx rb e w' (by omega) (by omega) hb (by rw [hw.cell (by exact hr)]; exact q2)
  | 3, _ => exact get_noteTable_3 bx rb s w' (by omega) (by omega) hb (by rw [hw.cell (by exact hr)]; exact q3)
theorem noteFD_allows (bx : Nat) (c p e s : Int) : ∀ i (h : i < (noteFDs bx).length), AllowsIs (noteFDs bx)[i] (noteV c p e s i) ⟨#[]⟩ (noteOkI c p e s i) := by
  intro i hi w'
  match i, hi with
  | 0, _ => exact allows_num 0 (.inl rfl) c 1 4 _ w'
  | 1, _ => exact allows_num 0 (.inl rfl) p 0 9007199254740992 _ w'
  | 2, _ => exact allows_num 0 (.inl rfl) e 0 9007199254740992 _ w'
  | 3, _ => exact allows_num 1 (.inr rfl) s 0 4294967295 _ w'
theorem noteOk_sum {c p e s : Int} (h : noteOk c p e s = true) : ∃ n : Nat, n < 4294967296 ∧ s = (n : Int) := by
  unfold noteOk inR at h
  simp only [Bool.and_eq_true, decide_eq_true_eq] at h
  exact ⟨s.toNat, by omega, by omega⟩
theorem noteFD_prints (bx : Nat) (c p e s : Int) (hc : I64 c) (hp : I64 p) (he : I64 e) (hok : noteOk c p e s = true) (w : World) (hP : Pow w) : ∀ i (h : i < (noteFDs bx).length), PrintsAt w (noteFDs bx)[i] (noteV c p e s i) ⟨#[]⟩ (noteO c p e s i) := by
  obtain ⟨n, hn, rfl⟩ := noteOk_sum hok
  intro i hi w' hw
  match i, hi with
  | 0, _ => exact print_num c _ w' hc.1 hc.2 (hP.below hw)
  | 1, _ => exact print_num p _ w' hp.1 hp.2 (hP.below hw)
  | 2, _ => exact print_num e _ w' he.1 he.2 (hP.below hw)
  | 3, _ => exact print_sum n hn _ w'
theorem noteFD_small (bx : Nat) : ∀ i (h : i < (noteFDs bx).length), (noteFDs bx)[i].wd.size ≤ 1000 ∧ (noteFDs bx)[i].en.size ≤ 1000 := by
  intro i hi
  match i, hi with
  | 0, _ => exact ⟨Nat.le_of_ble_eq_true rfl, Nat.le_of_ble_eq_true rfl⟩
  | 1, _ => exact ⟨Nat.le_of_ble_eq_true rfl, Nat.le_of_ble_eq_true rfl⟩
  | 2, _ => exact ⟨Nat.le_of_ble_eq_true rfl, Nat.le_of_ble_eq_true rfl⟩
  | 3, _ => exact ⟨Nat.le_of_ble_eq_true rfl, Nat.le_of_ble_eq_true rfl⟩
theorem noteO_len (c p e s : Int) (hc : I64 c) (hp : I64 p) (he : I64 e) : ∀ i, (noteO c p e s i).size ≤ 20
  | 0 => by show (itS c).size ≤ 20; unfold itS; rw [strOf_size]; exact itoa_len c hc.1 hc.2
  | 1 => by show (itS p).size ≤ 20; unfold itS; rw [strOf_size]; exact itoa_len p hp.1 hp.2
  | 2 => by show (itS e).size ≤ 20; unfold itS; rw [strOf_size]; exact itoa_len e he.1 he.2
  | _ + 3 => by show (strOf (hexL (be4 s.toNat))).size ≤ 20; rw [strOf_size, hexL_len]; simp [be4]
/-- a note's line -/
def noteS (c p e s : Int) : ByteArray := if noteOk c p e s then strOf (noteL c p e s) ++ strOf (sealL ⟨#[]⟩ (crcN 0 (noteL c p e s))) else ⟨#[]⟩
def noteE (c p e s : Int) : Int := if noteOk c p e s then 0 else 42
set_option maxHeartbeats 2000000 in
set_option maxRecDepth 100000 in
theorem printNote_any (c p e s : Int) (hc : I64 c) (hp : I64 p) (he : I64 e) (w : World) (hP : Pow w) (hT4 : Tab4 0 w) :
    Calls Tryz.prog 13 #[.agg #[.int .i64 c, .int .i64 p, .int .i64 e, .int .i64 s]] w fun x w' => x = .returned (.tuple #[.string (noteS c p e s), .int .i64 (noteE c p e s)]) ∧ Below w.heap.size w w' := by
  obtain ⟨W0, hW0⟩ : ∃ W0, W0 = w.alloc (.cells #[.int .i64 c, .int .i64 p, .int .i64 e, .int .i64 s] 27) := ⟨_, rfl⟩
  have b0 : Below w.heap.size w W0 := by rw [hW0]; exact (Below.refl _ w).alloc (Nat.le_refl _) _
  have s0 : W0.heap.size = w.heap.size + 1 := by rw [hW0]; simp
  have r0 : NoteAt W0 w.heap.size c p e s := by rw [hW0]; exact ⟨by simp, by simp, by simp, by simp⟩
  have T := hide (noteTable_any w.heap.size W0)
  obtain ⟨W1, hW1⟩ : ∃ W1, W1 = tabW 59 w.heap.size (noteFDs W0.heap.size) W0 := ⟨_, rfl⟩
  have b1 : Below W0.heap.size W0 W1 := by rw [hW1]; exact tabW_below _ _ _ _
  have s1 : W1.heap.size = W0.heap.size + 2 := by rw [hW1]; exact tabW_size _ _ _ _
  have t1 : TabAt (W0.heap.size + 1) W1 (noteFDs W0.heap.size) := by rw [hW1]; exact tabW_tab _ _ _ _
  have x1 : W1.cell? ⟨W0.heap.size, 0, none⟩ = some (.pointer (some ⟨w.heap.size, 0, none⟩)) := by rw [hW1]; exact tabW_box _ _ _ _
  have r1 : NoteAt W1 w.heap.size c p e s := by
    obtain ⟨q0, q1, q2, q3⟩ := r0
    have hl : w.heap.size < W0.heap.size := by omega
    exact ⟨by rw [b1.cell (by exact hl)]; exact q0, by rw [b1.cell (by exact hl)]; exact q1, by rw [b1.cell (by exact hl)]; exact q2, by rw [b1.cell (by exact hl)]; exact q3⟩
  have bb := b0.trans (b1.mono b0.size)
  have G := noteFD_gets w.heap.size W0.heap.size c p e s W1 (by omega) (by omega) x1 r1
  have hT41 := hT4.below bb hT4.lt
  have C := hide (fit_any (W0.heap.size + 1) 4 (noteFDs W0.heap.size) W1 (noteV c p e s) (fun _ => ⟨#[]⟩) (noteOkI c p e s) (by show 4 ≤ _; omega) t1 (by omega) (noteFD_enters _) G (noteFD_allows _ c p e s))
  rw [show allB (noteFDs W0.heap.size).length (noteOkI c p e s) = noteOk c p e s from noteOk_all c p e s] at C
  have BB := hide bb
  by_cases hok : noteOk c p e s = true
  · have W := hide (fun w1 (b1 : Below W1.heap.size W1 w1) => written_any (W0.heap.size + 1) 4 (noteFDs W0.heap.size) w1 (noteV c p e s) (fun _ => ⟨#[]⟩) (noteO c p e s) 20 (by omega) (by show 4 ≤ 64; omega) (t1.below (by omega) b1) (by have := b1.size; omega) (noteFD_enters _) (fun i h => (G i h).below b1) (fun i h => (noteFD_prints _ c p e s hc hp he hok W1 (hP.below bb) i h).below b1) (noteFD_small _) (noteO_len c p e s hc hp he))
    have hl := wrL_len (noteFDs W0.heap.size) (noteO c p e s) 20 (noteFD_small _) (noteO_len c p e s hc hp he) 4 (Nat.le_refl _)
    rw [noteL_wr] at hl
    have S := hide (fun w1 (b1 : Below W1.heap.size W1 w1) => sealed_any (strOf (noteL c p e s)) ⟨#[]⟩ w1 (by rw [strOf_size]; omega) (by decide) (hT41.below b1 hT41.lt))
    rw [show (strOf (noteL c p e s)).data.toList = noteL c p e s from strOf_data _] at S
    have e1 : noteS c p e s = strOf (noteL c p e s) ++ strOf (sealL ⟨#[]⟩ (crcN 0 (noteL c p e s))) := by unfold noteS; rw [if_pos hok]
    have e2 : noteE c p e s = 0 := by unfold noteE; rw [if_pos hok]
    rw [e1, e2]
    rw [hok] at C
    have W' : Hid (∀ w1, Below W1.heap.size W1 w1 → Calls Tryz.prog 27 #[.slice (some ⟨W0.heap.size + 1, 0, none⟩) 4 4] w1 fun e' w' => e' = .returned (.string (strOf (noteL c p e s))) ∧ Below w1.heap.size w1 w') := W.out
    clear e1 e2 hl W hok
    generalize noteL c p e s = L at *
    clear G hP hT4 hT41 r0 r1 t1 x1 b0 b1 bb s1 s0 hc hp he
    go_enter Tryz.func13, Tryz.ntmps13
    go_wp2_with fail
    rw [← hW0]
    clear hW0
    refine Calls.mono T.out ?_
    rintro x w2 ⟨rfl, rfl⟩
    rw [← hW1]
    clear hW1
    go_wp2_with fail
    refine Calls.mono C.out ?_
    rintro x w3 ⟨rfl, b3⟩
    have B3 := hide b3
    have W3 := hide (W'.out w3 b3)
    clear b3 C T W'
    go_wp2_with fail
    refine Calls.mono W3.out ?_
    rintro x w4 ⟨rfl, b4⟩
    have B4 := hide (B3.out.trans (b4.mono B3.out.size))
    have S4 := hide (S.out w4 B4.out)
    clear b4 W3 S
    go_wp2_with fail
    refine Calls.mono S4.out ?_
    rintro x w5 ⟨rfl, b5⟩
    have B5 := hide (BB.out.trans ((B4.out.trans (b5.mono B4.out.size)).mono BB.out.size))
    clear b5 S4
    go_wp2
    go_ret2
    exact ⟨rfl, B5.out⟩
  · have e1 : noteS c p e s = ⟨#[]⟩ := by unfold noteS; rw [if_neg hok]
    have e2 : noteE c p e s = 42 := by unfold noteE; rw [if_neg hok]
    rw [e1, e2]
    rw [show noteOk c p e s = false by simpa using hok] at C
    clear e1 e2 hok
    clear G hP hT4 hT41 r0 r1 t1 x1 b0 b1 bb s1 s0 hc hp he
    go_enter Tryz.func13, Tryz.ntmps13
    go_wp2_with fail
    rw [← hW0]
    clear hW0
    refine Calls.mono T.out ?_
    rintro x w2 ⟨rfl, rfl⟩
    rw [← hW1]
    clear hW1
    go_wp2_with fail
    refine Calls.mono C.out ?_
    rintro x w3 ⟨rfl, b3⟩
    have B3 := hide (BB.out.trans (b3.mono BB.out.size))
    clear b3 C T
    go_wp2
    go_ret2
    exact ⟨rfl, B3.out⟩
end Go.Proofs.YtaclbffacnoddaaGreatDoor
namespace Go.Proofs.YtaclbffacnoddaaGreatDoor
open Go.RowKit
theorem info5j : (Tryz.prog.info? 5).map (fun i => (i.zero, i.size, i.bytes)) = some (some (.int .u8 0), 1, 1) := by kernel_rfl
theorem cat_take_len (xs : List ByteArray) (k : Nat) : (cat (xs.take k)).length ≤ (cat xs).length := by
  have : cat xs = cat (xs.take k) ++ cat (xs.drop k) := by
    unfold cat
    rw [← List.flatten_append, ← List.map_append, List.take_append_drop]
  rw [this, List.length_append]
  omega
theorem one_cell' {x : Value} (hx : x.oneCell' = true) : ∀ u ∈ [x], u.oneCell' = true := by
  intro u hu; simp at hu; subst hu; exact hx
/-- a text written over -/
def turnB (x : ByteArray) : ByteArray := if x.size = 0 then ⟨#[120]⟩ else strOf (UInt8.ofNat ((x.data.toList.getD 0 0).toNat ^^^ 1) :: x.data.toList.drop 1)
theorem bxor8 (a b : Nat) (ha : a < 256) (hb : b < 256) : bits .xor .u8 (a : Int) (b : Int) = ((a ^^^ b : Nat) : Int) := by
  have hx : a ^^^ b < 2 ^ 8 := Nat.xor_lt_two_pow (by omega) (by omega)
  have o : ∀ c : Nat, c < 256 → (BitVec.ofInt 8 (c : Int)).toNat = c := fun c hc => by
    rw [BitVec.ofInt_natCast, BitVec.toNat_ofNat]; exact Nat.mod_eq_of_lt (by omega)
  show IntKind.u8.wrap ((BitVec.ofInt 8 (a : Int) ^^^ BitVec.ofInt 8 (b : Int)).toNat : Int) = _
  rw [BitVec.toNat_xor, o a ha, o b hb]
  exact u8_in (by omega) (by omega)
/-- the list, its first k texts written over -/
def ovK (xs : List ByteArray) (k : Nat) : List ByteArray := (xs.take k).map turnB ++ xs.drop k
theorem ovK_len (xs : List ByteArray) (k : Nat) : (ovK xs k).length = xs.length := by simp [ovK]; omega
theorem ovK_get (xs : List ByteArray) (k : Nat) (h : k < xs.length) : (ovK xs k)[k]? = some xs[k] := by
  unfold ovK
  rw [List.getElem?_append_right (by simp; omega)]
  simp only [List.length_map, List.length_take, List.getElem?_drop]
  rw [show min k xs.length = k by omega, Nat.sub_self, Nat.add_zero, List.getElem?_eq_getElem h]
theorem ovK_set (xs : List ByteArray) (k : Nat) (h : k < xs.length) : (ovK xs k).set k (turnB xs[k]) = ovK xs (k + 1) := by
  unfold ovK
  have hl : ((xs.take k).map turnB).length = k := by simp; omega
  rw [List.set_append_right _ _ (by omega), hl, Nat.sub_self, List.drop_eq_getElem_cons h, List.set_cons_zero, List.take_succ_eq_append_getElem h, List.map_append, List.append_assoc]
  rfl
theorem byte_string (w : World) (V : Nat) (hV : V < 256) : (convert 87 9 (.slice (some ⟨w.heap.size, 0, none⟩) 1 1)).run Tryz.prog (w.alloc (.cells #[.int .u8 (V : Int)] 5)).drew = .ok (.string (strOf [UInt8.ofNat V])) (w.alloc (.cells #[.int .u8 (V : Int)] 5)).drew := by
  have := run_convert_bytes_back (P := Tryz.prog) (w.alloc (.cells #[.int .u8 (V : Int)] 5)).drew 87 9 5 ⟨w.heap.size, 0, none⟩ 1 [UInt8.ofNat V] Tryz.underlying87 Tryz.underlying5 Tryz.underlying9 (fun j hj => by
    obtain rfl : j = 0 := by simpa using hj
    have e : (UInt8.ofNat V).toNat = V := by rw [UInt8.toNat_ofNat']; omega
    simp [Addr.add, e])
  exact this
end Go.Proofs.YtaclbffacnoddaaGreatDoor
