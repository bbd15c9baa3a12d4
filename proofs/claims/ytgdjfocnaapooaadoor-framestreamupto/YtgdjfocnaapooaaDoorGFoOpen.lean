import Derived.Test.YtgdjfocnaapooaaDoorRows
import Derived.Test.YtgdjfocnaapooaaDoorGFeWrite
import Derived.Lib.LaidTab
import Derived.Lib.LaidU8
import Derived.ProofKit
import Derived.OpenShut
import Derived.SizedLaws
import Derived.Deep.SlicePairs
import Derived.Lib.SmallJoins
import Derived.Laws.OwnMore
import Derived.Lib.Split
import Derived.Deep.QuietTactic
import Derived.BigQuiet
import Derived.Deep.RegionHeld3
namespace Go.Proofs.YtgdjfocnaapooaaDoor
open Go.ChangeShapes Go.WideShapes Go.ChangeAt Go.RowKit Go.Deep Go.Lib
theorem cellsI : Tryd.prog.cellsOf 3 = 1 := by kernel_rfl
theorem cellsS9 : Tryd.prog.cellsOf 9 = 1 := by kernel_rfl
theorem cellsB4 : Tryd.prog.cellsOf 4 = 1 := by kernel_rfl
theorem cellsFld : Tryd.prog.cellsOf 100 = 1 := by kernel_rfl
theorem cellsShp : Tryd.prog.cellsOf 103 = 3 := by kernel_rfl
theorem cellsShps : Tryd.prog.cellsOf 104 = 10 * 3 := by kernel_rfl
theorem cellsSl : Tryd.prog.cellsOf 105 = 1 := by kernel_rfl
theorem cellsSls : Tryd.prog.cellsOf 106 = 17 * 1 := by kernel_rfl
theorem cellsHds : Tryd.prog.cellsOf 101 = 3 := by kernel_rfl
theorem cellsMsg : Tryd.prog.cellsOf 27 = 11 := by kernel_rfl
theorem cellsErr : Tryd.prog.cellsOf 23 = 1 := by kernel_rfl
theorem arr_at {t e : TypeId} {n s : Nat} {W : World} {sp : Nat → Bool} {fuel : Nat} {cs : List Value} {ds : List (DataW Unit)} {p : List MemPlace} (ht : Tryd.prog.underlying t = some (.array n e)) (ce : Tryd.prog.cellsOf e = s) (ct : Tryd.prog.cellsOf t = n * s) (h : DataW.trod (fun _ => ()) Tryd.prog W 0 sp false fuel t cs = some (.agg ds, p)) : ∃ f2, ∀ i, i < n → ∃ d q, ds[i]? = some d ∧ DataW.trod (fun _ => ()) Tryd.prog W 0 sp false f2 e ((cs.drop (i * s)).take s) = some (d, q) := by
  cases fuel with
  | zero => simp [DataW.trod] at h
  | succ fuel =>
    simp only [DataW.trod, ht, ce, ct] at h
    split at h
    · obtain ⟨xs, hm, hx⟩ := Option.map_eq_some_iff.1 h
      have hxs : xs.map (·.1) = ds := by
        have := congrArg Prod.fst hx
        simpa using this
      refine ⟨fuel, fun i hi => ?_⟩
      obtain ⟨b, hb, hf⟩ := mapM_at hm i i (by simp [hi])
      exact ⟨b.1, b.2, by rw [← hxs]; simp [hb], hf⟩
    · cases h
theorem one_cell {cs : List Value} {j : Nat} {v : Value} (h : (cs.drop (j * 1)).take 1 = [v]) : cs[j]? = some v := by
  have h2 : ((cs.drop (j * 1)).take 1)[0]? = some v := by rw [h]; rfl
  rw [List.getElem?_take_of_lt (by omega), List.getElem?_drop] at h2
  simpa using h2
theorem lit_str {H : Type} {a b : List UInt8} (h : (DataW.lit (.string a) : DataW H) = .lit (.string b)) : a = b := by injection h with h; injection h
theorem lit_int {H : Type} {k l : IntKind} {a b : Int} (h : (DataW.lit (.int k a) : DataW H) = .lit (.int l b)) : a = b := by injection h with h; injection h
theorem lit_bool {H : Type} {a b : Bool} (h : (DataW.lit (.bool a) : DataW H) = .lit (.bool b)) : a = b := by injection h with h; injection h
/-- what is laid, as lists -/
def shapesD : List (DataW Unit) := (List.range 10).map fun i => .agg [.lit (.int .i64 (widF i : Int)), .lit (.int .i64 (mostF i : Int)), .lit (.bool (isTx i))]
def bodiesD : List (DataW Unit) := .nil :: (List.range 16).map fun k => .slice ((bodyF (k + 1)).map fun i : Nat => .lit (.int .i64 (i : Int))) []
theorem list3 {α : Type} {l : List α} (h : l.length = 3) : ∃ a0 a1 a2, l = [a0, a1, a2] := by
  match l, h with
  | [a0, a1, a2], _ => exact ⟨a0, a1, a2, rfl⟩
theorem shapes_of {W : World} {name : String} (h : VarReads Tryd.prog W name (.agg shapesD)) (hg : Tryd.prog.globalNamed name = some 2) (hty : (Tryd.prog.globals[2]?).map (·.type) = some 104) :
    ∀ i, i < 10 → W.cell? ⟨2, i * 3, none⟩ = some (.int .i64 (widF i : Int)) ∧ W.cell? ⟨2, i * 3 + 1, none⟩ = some (.int .i64 (mostF i : Int)) ∧ W.cell? ⟨2, i * 3 + 2, none⟩ = some (.bool (isTx i)) := by
  obtain ⟨g', t', cs, fuel, p, hg', ht', hvar, hdd⟩ := h
  obtain rfl := Option.some.inj (hg.symm.trans hg')
  obtain rfl := Option.some.inj (hty.symm.trans ht')
  obtain ⟨f2, ha⟩ := arr_at Tryd.underlying104 cellsShp cellsShps hdd
  intro i hi
  obtain ⟨d, q, hd, ht⟩ := ha i hi
  have e : shapesD[i]? = some (.agg [.lit (.int .i64 (widF i : Int)), .lit (.int .i64 (mostF i : Int)), .lit (.bool (isTx i))]) := by unfold shapesD; rw [List.getElem?_map, List.getElem?_range hi]; rfl
  rw [e] at hd
  obtain rfl := Option.some.inj hd
  obtain ⟨xs, n, _, hx, hlen, hxl, hq⟩ := DataW.trod_struct Tryd.underlying103 ht
  obtain ⟨y0, y1, y2, rfl⟩ := list3 hxl
  rw [cellsShp] at hlen
  obtain ⟨v0, v1, v2, hv⟩ := list3 hlen
  have g0 := hq 0 _ rfl
  have g1 := hq 1 _ rfl
  have g2 := hq 2 _ rfl
  rw [hv] at g0 g1 g2
  simp [cellsI, cellsB4] at g0 g1 g2
  obtain ⟨n0, f0, z0, _⟩ := DataW.trod_int Tryd.underlying3 g0
  obtain ⟨n1, f1', z1, _⟩ := DataW.trod_int Tryd.underlying3 g1
  obtain ⟨b2, f2', z2⟩ := DataW.trod_bool Tryd.underlying4 g2
  simp only [List.cons.injEq, and_true] at f0 f1' f2'
  subst f0 f1' f2' z0 z1 z2
  simp only [Prod.mk.injEq, List.map_cons, List.map_nil, DataW.agg.injEq, List.cons.injEq, and_true] at hx
  obtain ⟨⟨e0, e1, e2⟩, _⟩ := hx
  have cell : ∀ j v, [Value.int .i64 n0, Value.int .i64 n1, Value.bool b2][j]? = some v → W.cell? ⟨2, i * 3 + j, none⟩ = some v := fun j v hj => by
    have hj3 : j < 3 := (List.getElem?_eq_some_iff.1 hj).1
    rw [World.var?_cell hg hvar (i * 3 + j), ← Array.getElem?_toList]
    rw [← hv, List.getElem?_take_of_lt hj3, List.getElem?_drop] at hj
    exact hj
  exact ⟨by rw [lit_int e0]; exact cell 0 _ rfl, by rw [lit_int e1]; exact cell 1 _ rfl, by rw [lit_bool e2]; exact cell 2 _ rfl⟩
theorem bodies_of {W : World} {name : String} (h : VarReads Tryd.prog W name (.agg bodiesD)) (hg : Tryd.prog.globalNamed name = some 3) (hty : (Tryd.prog.globals[3]?).map (·.type) = some 106) :
    ∀ k, 1 ≤ k → k ≤ 16 → ∃ (ao : Option Addr) (b o cap : Nat), W.cell? ⟨3, k, none⟩ = some (.slice ao (bodyF k).length cap) ∧ (0 < (bodyF k).length → ao = some ⟨b, o, none⟩) ∧ ∀ j (h : j < (bodyF k).length), W.cell? ⟨b, o + j, none⟩ = some (.int .i64 ((bodyF k)[j] : Int)) := by
  obtain ⟨g', t', cs, fuel, p, hg', ht', hvar, hdd⟩ := h
  obtain rfl := Option.some.inj (hg.symm.trans hg')
  obtain rfl := Option.some.inj (hty.symm.trans ht')
  obtain ⟨f2, ha⟩ := arr_at Tryd.underlying106 cellsSl cellsSls hdd
  intro k h1 h16
  obtain ⟨d, q, hd, ht⟩ := ha k (by omega)
  have e : bodiesD[k]? = some (.slice ((bodyF k).map fun i : Nat => .lit (.int .i64 (i : Int))) []) := by
    obtain ⟨k, rfl⟩ : ∃ k', k = k' + 1 := ⟨k - 1, by omega⟩
    unfold bodiesD; rw [List.getElem?_cons_succ, List.getElem?_map, List.getElem?_range (by omega)]; rfl
  rw [e] at hd
  obtain rfl := Option.some.inj hd
  rcases open_slice Tryd.underlying105 ht with ⟨_, hx⟩ | ⟨a, len, cap, mm, n, D, Pl, hcs, _, hl, hm, hmm, hx, hcell⟩
  · simp at hx
  · simp only [Prod.mk.injEq, DataW.slice.injEq] at hx
    have hln : (bodyF k).length = len := by have := congrArg List.length hx.1.1; simpa using this
    subst hln
    have c := one_cell hcs
    have hmle : (bodyF k).length ≤ mm := by rw [hmm]; split <;> omega
    obtain ⟨ab, ao, asp⟩ := a
    have each : ∀ j (hj : j < (bodyF k).length), W.cell? ((⟨ab, ao, asp⟩ : Addr).add j) = some (.int .i64 ((bodyF k)[j] : Int)) := fun j hj => by
      obtain ⟨cs', x1, x2⟩ := hcell j (by omega)
      rw [cellsFld, Nat.mul_one] at x1
      obtain ⟨_, hlen, hce⟩ := World.cells?_some x1
      have dj : D j = .lit (.int .i64 ((bodyF k)[j] : Int)) := by
        have := congrArg (fun l => l[j]?) hx.1.1
        simp only [List.getElem?_map, List.getElem?_range hj, List.getElem?_eq_getElem hj, Option.map_some, Option.some.injEq] at this
        exact this.symm
      rw [dj] at x2
      obtain ⟨z, f0, z0, _⟩ := DataW.trod_int Tryd.underlying100 x2
      subst f0
      simp only [Prod.mk.injEq] at z0
      have hz := lit_int z0.1
      have := hce 0 (by omega)
      rw [hz]
      simpa [Addr.add] using this
    have hsp : 0 < (bodyF k).length → asp = none := fun h => by simpa [Addr.add] using World.cell?_spot (each 0 h)
    refine ⟨some ⟨ab, ao, asp⟩, ab, ao, cap, by rw [World.var?_cell hg hvar k, ← Array.getElem?_toList, c], fun h => by rw [hsp h], fun j hj => ?_⟩
    have := each j hj
    rw [hsp (by omega), add_plain] at this
    exact this
theorem list11 {α : Type} {l : List α} (h : l.length = 11) : ∃ a0 a1 a2 a3 a4 a5 a6 a7 a8 a9 a10, l = [a0, a1, a2, a3, a4, a5, a6, a7, a8, a9, a10] := by
  match l, h with
  | [a0, a1, a2, a3, a4, a5, a6, a7, a8, a9, a10], _ => exact ⟨a0, a1, a2, a3, a4, a5, a6, a7, a8, a9, a10, rfl⟩
theorem array11 {α : Type} {l : Array α} (h : l.size = 11) : ∃ a0 a1 a2 a3 a4 a5 a6 a7 a8 a9 a10, l = #[a0, a1, a2, a3, a4, a5, a6, a7, a8, a9, a10] := by
  obtain ⟨l⟩ := l
  obtain ⟨a0, a1, a2, a3, a4, a5, a6, a7, a8, a9, a10, h⟩ := list11 (l := l) (by simpa using h)
  exact ⟨a0, a1, a2, a3, a4, a5, a6, a7, a8, a9, a10, by rw [h]⟩
set_option maxRecDepth 100000 in
set_option maxHeartbeats 1000000 in
/-- a message that is handed in -/
theorem open_msg {H : Type} {enc : TypeId × Value → H} {w : World} {r : Reach} {b0 base : Nat} {spare : Nat → Bool} {held : Bool} {v : Value} {d : DataW H} {p : List MemPlace} (hv : Value.okWide Tryd.prog w r b0 27 v) (h : DataW.Trod enc Tryd.prog w base spare held 27 v d p) :
    ∃ m : MM, v = .agg (msgV m) ∧ p = [] := by
  obtain ⟨cs, rfl, hsz⟩ := okWide_struct Tryd.underlying27 hv
  obtain ⟨a0, a1, a2, a3, a4, a5, a6, a7, a8, a9, a10, rfl⟩ := array11 (hsz.trans cellsMsg)
  obtain ⟨fuel, hf⟩ := h
  obtain ⟨xs, n, _, hx, _, hxl, hq⟩ := DataW.trod_struct Tryd.underlying27 hf
  obtain ⟨y0, y1, y2, y3, y4, y5, y6, y7, y8, y9, y10, rfl⟩ := list11 hxl
  have g0 := hq 0 _ rfl
  have g1 := hq 1 _ rfl
  have g2 := hq 2 _ rfl
  have g3 := hq 3 _ rfl
  have g4 := hq 4 _ rfl
  have g5 := hq 5 _ rfl
  have g6 := hq 6 _ rfl
  have g7 := hq 7 _ rfl
  have g8 := hq 8 _ rfl
  have g9 := hq 9 _ rfl
  have g10 := hq 10 _ rfl
  simp [Value.cells, cellsI, cellsS9, cellsErr] at g0 g1 g2 g3 g4 g5 g6 g7 g8 g9 g10
  obtain ⟨n0, f0, z0, w0⟩ := DataW.trod_int Tryd.underlying3 g0
  obtain ⟨n1, f1, z1, w1⟩ := DataW.trod_int Tryd.underlying3 g1
  obtain ⟨n2, f2, z2, w2⟩ := DataW.trod_int Tryd.underlying3 g2
  obtain ⟨n3, f3, z3, w3⟩ := DataW.trod_int Tryd.underlying3 g3
  obtain ⟨n4, f4, z4, w4⟩ := DataW.trod_int Tryd.underlying3 g4
  obtain ⟨n5, f5, z5, w5⟩ := DataW.trod_int Tryd.underlying3 g5
  obtain ⟨n6, f6, z6, w6⟩ := DataW.trod_int Tryd.underlying3 g6
  obtain ⟨n7, f7, z7, w7⟩ := DataW.trod_int Tryd.underlying3 g7
  obtain ⟨n8, f8, z8, w8⟩ := DataW.trod_int Tryd.underlying23 g8
  obtain ⟨s9, f9, z9, w9⟩ := DataW.trod_string Tryd.underlying9 g9
  obtain ⟨s10, f10, z10, w10⟩ := DataW.trod_string Tryd.underlying9 g10
  simp only [List.cons.injEq, and_true] at f0 f1 f2 f3 f4 f5 f6 f7 f8 f9 f10
  subst f0 f1 f2 f3 f4 f5 f6 f7 f8 f9 f10
  simp only [Prod.mk.injEq] at hx
  refine ⟨⟨n0, n1, n2, n3, n4, n5, n6, n7, n8, s9, s10⟩, rfl, ?_⟩
  rw [hx.2, z0, z1, z2, z3, z4, z5, z6, z7, z8, z9, z10]; rfl
end Go.Proofs.YtgdjfocnaapooaaDoor
namespace Go.Proofs.YtgdjfocnaapooaaDoor
open Go.RowKit
theorem info5j : (Tryd.prog.info? 5).map (fun i => (i.zero, i.size, i.bytes)) = some (some (.int .u8 0), 1, 1) := by kernel_rfl
theorem cat_take_len (xs : List ByteArray) (k : Nat) : (cat (xs.take k)).length ≤ (cat xs).length := by
  have : cat xs = cat (xs.take k) ++ cat (xs.drop k) := by
    unfold cat
    rw [← List.flatten_append, ← List.map_append, List.take_append_drop]
  rw [this, List.length_append]
  omega
theorem one_cell' {x : Value} (hx : x.oneCell' = true) : ∀ u ∈ [x], u.oneCell' = true := by
  intro u hu; simp at hu; subst hu; exact hx
/-- a text written over -/
def turnB (x : ByteArray) : ByteArray := if x.size = 0 then ⟨#[120]⟩ else strOf (UInt8.ofNat ((x.data.toList.getD 0 0).toNat ^^^ 1) :: x.data.toList.drop 1)
theorem bxor8 (a b : Nat) (ha : a < 256) (hb : b < 256) : bits .xor .u8 (a : Int) (b : Int) = ((a ^^^ b : Nat) : Int) := by
  have hx : a ^^^ b < 2 ^ 8 := Nat.xor_lt_two_pow (by omega) (by omega)
  have o : ∀ c : Nat, c < 256 → (BitVec.ofInt 8 (c : Int)).toNat = c := fun c hc => by
    rw [BitVec.ofInt_natCast, BitVec.toNat_ofNat]; exact Nat.mod_eq_of_lt (by omega)
  show IntKind.u8.wrap ((BitVec.ofInt 8 (a : Int) ^^^ BitVec.ofInt 8 (b : Int)).toNat : Int) = _
  rw [BitVec.toNat_xor, o a ha, o b hb]
  exact u8_in (by omega) (by omega)
/-- the list, its first k texts written over -/
def ovK (xs : List ByteArray) (k : Nat) : List ByteArray := (xs.take k).map turnB ++ xs.drop k
theorem ovK_len (xs : List ByteArray) (k : Nat) : (ovK xs k).length = xs.length := by simp [ovK]; omega
theorem ovK_get (xs : List ByteArray) (k : Nat) (h : k < xs.length) : (ovK xs k)[k]? = some xs[k] := by
  unfold ovK
  rw [List.getElem?_append_right (by simp; omega)]
  simp only [List.length_map, List.length_take, List.getElem?_drop]
  rw [show min k xs.length = k by omega, Nat.sub_self, Nat.add_zero, List.getElem?_eq_getElem h]
theorem ovK_set (xs : List ByteArray) (k : Nat) (h : k < xs.length) : (ovK xs k).set k (turnB xs[k]) = ovK xs (k + 1) := by
  unfold ovK
  have hl : ((xs.take k).map turnB).length = k := by simp; omega
  rw [List.set_append_right _ _ (by omega), hl, Nat.sub_self, List.drop_eq_getElem_cons h, List.set_cons_zero, List.take_succ_eq_append_getElem h, List.map_append, List.append_assoc]
  rfl
theorem byte_string (w : World) (V : Nat) (hV : V < 256) : (convert 89 9 (.slice (some ⟨w.heap.size, 0, none⟩) 1 1)).run Tryd.prog (w.alloc (.cells #[.int .u8 (V : Int)] 5)).drew = .ok (.string (strOf [UInt8.ofNat V])) (w.alloc (.cells #[.int .u8 (V : Int)] 5)).drew := by
  have := run_convert_bytes_back (P := Tryd.prog) (w.alloc (.cells #[.int .u8 (V : Int)] 5)).drew 89 9 5 ⟨w.heap.size, 0, none⟩ 1 [UInt8.ofNat V] Tryd.underlying89 Tryd.underlying5 Tryd.underlying9 (fun j hj => by
    obtain rfl : j = 0 := by simpa using hj
    have e : (UInt8.ofNat V).toNat = V := by rw [UInt8.toNat_ofNat']; omega
    simp [Addr.add, e])
  exact this
end Go.Proofs.YtgdjfocnaapooaaDoor
namespace Go.Proofs.YtgdjfocnaapooaaDoor
open Go.RowKit
theorem xor_div2 (a b : Nat) : (a ^^^ b) / 2 = a / 2 ^^^ b / 2 := by
  apply Nat.eq_of_testBit_eq
  intro i
  rw [Nat.testBit_div_two, Nat.testBit_xor, Nat.testBit_xor, Nat.testBit_div_two, Nat.testBit_div_two]
theorem xor_mod2 (a b : Nat) : (a ^^^ b) % 2 = (a % 2 + b % 2) % 2 := by
  have h := Nat.testBit_xor a b 0
  rw [Nat.testBit_zero, Nat.testBit_zero, Nat.testBit_zero] at h
  rcases Nat.mod_two_eq_zero_or_one a with ha | ha <;> rcases Nat.mod_two_eq_zero_or_one b with hb | hb <;> rcases Nat.mod_two_eq_zero_or_one (a ^^^ b) with hc | hc <;> simp [ha, hb, hc] at h ⊢
theorem xor_cancel (a b c : Nat) : (a ^^^ c) ^^^ (b ^^^ c) = a ^^^ b := by
  rw [Nat.xor_assoc, Nat.xor_comm b c, ← Nat.xor_assoc c c b, Nat.xor_self, Nat.zero_xor]
theorem stp_xor (a b : Nat) : stp (a ^^^ b) = stp a ^^^ stp b := by
  unfold stp
  rw [xor_div2, xor_mod2]
  rcases Nat.mod_two_eq_zero_or_one a with ha | ha <;> rcases Nat.mod_two_eq_zero_or_one b with hb | hb <;> simp only [ha, hb]
  · simp
  · simp [Nat.xor_assoc]
  · simp [Nat.xor_assoc, Nat.xor_comm (b / 2)]
  · simp [xor_cancel]
theorem stp_even (q : Nat) : stp (2 * q) = q := by unfold stp; rw [if_pos (by omega)]; omega
/-- so many steps -/
def stps : Nat → Nat → Nat
  | 0, w => w
  | n + 1, w => stps n (stp w)
theorem stps_xor (n a b : Nat) : stps n (a ^^^ b) = stps n a ^^^ stps n b := by
  induction n generalizing a b with
  | zero => rfl
  | succ n ih => show stps n (stp (a ^^^ b)) = _; rw [stp_xor, ih]; rfl
theorem stps_add (m n w : Nat) : stps (m + n) w = stps n (stps m w) := by
  induction m generalizing w with
  | zero => rw [Nat.zero_add]; rfl
  | succ m ih => rw [show m + 1 + n = (m + n) + 1 by omega]; exact ih (stp w)
theorem stps_comm (m n w : Nat) : stps m (stps n w) = stps n (stps m w) := by rw [← stps_add, ← stps_add, Nat.add_comm]
theorem stps_zero (n : Nat) : stps n 0 = 0 := by
  induction n with
  | zero => rfl
  | succ n ih => show stps n (stp 0) = 0; exact ih
theorem stps_pow (k q : Nat) : stps k (2 ^ k * q) = q := by
  induction k generalizing q with
  | zero => show 2 ^ 0 * q = q; simp
  | succ k ih =>
    show stps k (stp (2 ^ (k + 1) * q)) = q
    rw [show 2 ^ (k + 1) * q = 2 * (2 ^ k * q) by rw [Nat.pow_succ, Nat.mul_comm (2 ^ k) 2, Nat.mul_assoc], stp_even]
    exact ih q
theorem stp_lt {w : Nat} (h : w < 4294967296) : stp w < 4294967296 := by
  unfold stp
  split
  · omega
  · exact xor32_lt (by omega) (by omega)
theorem stps_lt (n : Nat) {w : Nat} (h : w < 4294967296) : stps n w < 4294967296 := by
  induction n generalizing w with
  | zero => exact h
  | succ n ih => exact ih (stp_lt h)
theorem xor_eq_zero' {a b : Nat} (h : a ^^^ b = 0) : a = b := by
  have := congrArg (· ^^^ b) h
  simp only [Nat.xor_assoc, Nat.xor_self, Nat.xor_zero, Nat.zero_xor] at this
  exact this
theorem stp_ne {w : Nat} (h : w < 4294967296) (h0 : w ≠ 0) : stp w ≠ 0 := by
  unfold stp
  split
  · omega
  · intro e
    have := xor_eq_zero' e
    omega
theorem stps_ne (n : Nat) {w : Nat} (h : w < 4294967296) (h0 : w ≠ 0) : stps n w ≠ 0 := by
  induction n generalizing w with
  | zero => exact h0
  | succ n ih => exact ih (stp_lt h) (stp_ne h h0)
/-- a high part and a low part, laid together -/
theorem xor_pow (m x b : Nat) (h : b < 2 ^ m) : (2 ^ m * x) ^^^ b = 2 ^ m * x + b := by
  apply Nat.eq_of_testBit_eq
  intro j
  rw [Nat.testBit_xor, Nat.testBit_two_pow_mul_add x h, Nat.testBit_two_pow_mul]
  by_cases hj : j < m
  · rw [if_pos hj]
    simp [show ¬ m ≤ j by omega]
  · rw [if_neg hj]
    have : b.testBit j = false := Nat.testBit_lt_two_pow (Nat.lt_of_lt_of_le h (Nat.pow_le_pow_right (by omega) (by omega)))
    simp [this, show m ≤ j by omega]
theorem nib_eq (w : Nat) : nib w = stps 4 w := by
  have e : w = (2 ^ 4 * (w / 16)) ^^^ (w % 16) := by rw [xor_pow 4 (w / 16) (w % 16) (by omega)]; omega
  have ht : ∀ r : Fin 16, stps 4 r.1 = t4 r.1 := by decide
  conv => rhs; rw [e, stps_xor, stps_pow, ht ⟨w % 16, by omega⟩]
  rfl
theorem crcB_eq (w b : Nat) : crcB w b = stps 8 (w ^^^ b) := by
  unfold crcB
  rw [nib_eq, nib_eq, ← stps_add]
/-- a text as a number, the lowest bit first -/
def numL : List UInt8 → Nat
  | [] => 0
  | b :: r => b.toNat + 256 * numL r
theorem crcW_num (d : Nat) (l : List UInt8) : crcW d l = stps (8 * l.length) (d ^^^ numL l) := by
  induction l generalizing d with
  | nil => show d = stps 0 (d ^^^ 0); rw [Nat.xor_zero]; rfl
  | cons b r ih =>
    show crcW (crcB d b.toNat) r = _
    have hb := b.toNat_lt
    have e : numL (b :: r) = (2 ^ 8 * numL r) ^^^ b.toNat := by
      rw [xor_pow 8 (numL r) b.toNat (by omega)]; show b.toNat + 256 * numL r = _; omega
    rw [ih, crcB_eq, e, List.length_cons, show 8 * (r.length + 1) = 8 + 8 * r.length by omega, stps_add]
    congr 1
    rw [Nat.xor_comm (2 ^ 8 * numL r), ← Nat.xor_assoc]
    conv => rhs; rw [stps_xor, stps_pow]
theorem crcW_lin (d e : Nat) (l : List UInt8) : crcW (d ^^^ e) l = crcW d l ^^^ stps (8 * l.length) e := by
  rw [crcW_num, crcW_num, ← stps_xor, Nat.xor_assoc, Nat.xor_assoc, Nat.xor_comm e]
theorem crcN_join (s : Nat) (l : List UInt8) : crcN s l = stps (8 * l.length) s ^^^ crcN 0 l := by
  unfold crcN
  rw [crcW_lin, Nat.xor_zero, ← Nat.xor_assoc, Nat.xor_comm]
/-- the sum of two texts -/
theorem crc_cat (x y : List UInt8) : crcN 0 (x ++ y) = stps (8 * y.length) (crcN 0 x) ^^^ crcN 0 y := by
  rw [crcN_append, crcN_join]
/-- the product, bit by bit from the highest -/
def pr (a b : Nat) : Nat → Nat
  | 0 => 0
  | k + 1 => if 2147483648 ≤ a * 2 ^ k % 4294967296 then pr a b k ^^^ stps k b else pr a b k
theorem pr_lt (a b k : Nat) (h : b < 4294967296) : pr a b k < 4294967296 := by
  induction k with
  | zero => show 0 < _; omega
  | succ k ih =>
    unfold pr
    split
    · exact xor32_lt ih (stps_lt k h)
    · exact ih
theorem pr_steps (a n b k : Nat) : pr a (stps n b) k = stps n (pr a b k) := by
  induction k with
  | zero => exact (stps_zero n).symm
  | succ k ih =>
    unfold pr
    split
    · rw [ih, stps_comm, ← stps_xor]
    · exact ih
theorem one_steps (k : Nat) (h : k ≤ 31) : stps k 2147483648 = 2 ^ (31 - k) := by
  have := stps_pow k (2 ^ (31 - k))
  rw [← Nat.pow_add, show k + (31 - k) = 31 by omega] at this
  exact this
theorem top_bit (a k : Nat) (hk : k ≤ 31) : (2147483648 ≤ a * 2 ^ k % 4294967296) ↔ (a / 2 ^ (31 - k)) % 2 = 1 := by
  have hP : 2 ^ (31 - k) * 2 ^ k = 2147483648 := by rw [← Nat.pow_add, show 31 - k + k = 31 by omega]
  have hp : 0 < 2 ^ k := Nat.pow_pos (by omega)
  have hq : 0 < 2 ^ (31 - k) := Nat.pow_pos (by omega)
  have e1 : a * 2 ^ k % 4294967296 = (a % (2 * 2 ^ (31 - k))) * 2 ^ k := by
    rw [show 4294967296 = (2 * 2 ^ (31 - k)) * 2 ^ k by rw [Nat.mul_assoc, hP], Nat.mul_mod_mul_right]
  rw [e1, ← hP]
  have e2 : a % (2 * 2 ^ (31 - k)) / 2 ^ (31 - k) = a / 2 ^ (31 - k) % 2 := by
    rw [Nat.mul_comm 2, Nat.mod_mul_right_div_self]
  rw [← e2]
  have hlt : a % (2 * 2 ^ (31 - k)) < 2 * 2 ^ (31 - k) := Nat.mod_lt _ (by omega)
  constructor
  · intro h
    have h1 : 2 ^ (31 - k) ≤ a % (2 * 2 ^ (31 - k)) := Nat.le_of_mul_le_mul_right h hp
    have h2 : 1 ≤ a % (2 * 2 ^ (31 - k)) / 2 ^ (31 - k) := (Nat.le_div_iff_mul_le hq).2 (by omega)
    have h3 : a % (2 * 2 ^ (31 - k)) / 2 ^ (31 - k) < 2 := Nat.div_lt_of_lt_mul (Nat.lt_of_lt_of_eq hlt (Nat.mul_comm _ _))
    omega
  · intro h
    apply Nat.mul_le_mul_right
    have := Nat.div_mul_le_self (a % (2 * 2 ^ (31 - k))) (2 ^ (31 - k))
    rw [h, Nat.one_mul] at this
    exact this
theorem pr_one (a k : Nat) (ha : a < 4294967296) (hk : k ≤ 32) : pr a 2147483648 k = 2 ^ (32 - k) * (a / 2 ^ (32 - k)) := by
  induction k with
  | zero => show 0 = 2 ^ 32 * (a / 2 ^ 32); rw [Nat.div_eq_of_lt ha]
  | succ k ih =>
    have ih := ih (by omega)
    have e32 : 2 ^ (32 - k) = 2 * 2 ^ (31 - k) := by rw [show 32 - k = (31 - k) + 1 by omega, Nat.pow_succ, Nat.mul_comm]
    have ea : a / 2 ^ (32 - k) = a / 2 ^ (31 - k) / 2 := by rw [e32, Nat.mul_comm, Nat.div_div_eq_div_mul]
    unfold pr
    rw [show 32 - (k + 1) = 31 - k by omega]
    have ih' : pr a 2147483648 k = 2 ^ (32 - k) * (a / 2 ^ (31 - k) / 2) := by rw [ih, ea]
    have hpos : 2 ^ (31 - k) < 2 ^ (32 - k) := by rw [e32]; have : 0 < 2 ^ (31 - k) := Nat.pow_pos (by omega); omega
    split
    · rename_i h
      rw [top_bit a k (by omega)] at h
      rw [ih', one_steps k (by omega), xor_pow (32 - k) _ _ hpos, e32]
      generalize a / 2 ^ (31 - k) = X at *
      generalize 2 ^ (31 - k) = P
      have : X = 2 * (X / 2) + 1 := by omega
      conv => rhs; rw [this]
      rw [Nat.mul_add, Nat.mul_one, ← Nat.mul_assoc, Nat.mul_comm P 2]
    · rename_i h
      rw [top_bit a k (by omega)] at h
      rw [ih', e32]
      generalize a / 2 ^ (31 - k) = X at *
      generalize 2 ^ (31 - k) = P
      have : X = 2 * (X / 2) := by omega
      conv => rhs; rw [this]
      rw [← Nat.mul_assoc, Nat.mul_comm P 2]
/-- a product with so many steps of one is so many steps -/
theorem pr_power (a n : Nat) (ha : a < 4294967296) : pr a (stps n 2147483648) 32 = stps n a := by
  rw [pr_steps, pr_one a 32 ha (by omega)]
  simp
theorem pr_stop (a b k : Nat) (h : a * 2 ^ k % 4294967296 = 0) (j : Nat) : pr a b (k + j) = pr a b k := by
  induction j with
  | zero => rfl
  | succ j ih =>
    have e : pr a b (k + (j + 1)) = if 2147483648 ≤ a * 2 ^ (k + j) % 4294967296 then pr a b (k + j) ^^^ stps (k + j) b else pr a b (k + j) := rfl
    rw [e, if_neg, ih]
    rw [Nat.pow_add, ← Nat.mul_assoc, Nat.mul_mod, h, Nat.zero_mul, Nat.zero_mod]
    omega
theorem band_top (x : Nat) (h : x < 4294967296) : x &&& 2147483648 = if 2147483648 ≤ x then 2147483648 else 0 := by
  rw [show (2147483648 : Nat) = 2 ^ 31 from rfl]
  have hb : x.testBit 31 = decide (2 ^ 31 ≤ x) := by
    by_cases hx : 2 ^ 31 ≤ x
    · rw [decide_eq_true hx, Nat.testBit_eq_decide_div_mod_eq, decide_eq_true_eq]
      have : x / 2 ^ 31 = 1 := by omega
      omega
    · rw [decide_eq_false hx]
      exact Nat.testBit_lt_two_pow (by omega)
  apply Nat.eq_of_testBit_eq
  intro i
  rw [Nat.testBit_and, Nat.testBit_two_pow]
  by_cases hi : 31 = i
  · subst hi
    by_cases hx : 2 ^ 31 ≤ x
    · rw [hb, if_pos hx]
      rw [decide_eq_true hx, Nat.testBit_two_pow_self]
      rfl
    · rw [hb, if_neg hx]
      simp [hx]
  · split
    · rw [Nat.testBit_two_pow]; simp [hi]
    · simp [hi]
end Go.Proofs.YtgdjfocnaapooaaDoor
namespace Go.Proofs.YtgdjfocnaapooaaDoor
open Go.RowKit
theorem info9 : (Tryd.prog.info? 9).map (fun i => (i.zero, i.size, i.bytes)) = some (some (.string ByteArray.empty), 1, 16) := by kernel_rfl
theorem bxor64 (a b : Nat) (ha : a < 4294967296) (hb : b < 4294967296) : bits .xor .i64 (a : Int) (b : Int) = ((a ^^^ b : Nat) : Int) := by
  have hx : a ^^^ b < 2 ^ 32 := Nat.xor_lt_two_pow (by omega) (by omega)
  have o : ∀ c : Nat, c < 4294967296 → (BitVec.ofInt 64 (c : Int)).toNat = c := fun c hc => by
    rw [BitVec.ofInt_natCast, BitVec.toNat_ofNat]; exact Nat.mod_eq_of_lt (by omega)
  show IntKind.i64.wrap ((BitVec.ofInt 64 (a : Int) ^^^ BitVec.ofInt 64 (b : Int)).toNat : Int) = _
  rw [BitVec.toNat_xor, o a ha, o b hb]
  generalize a ^^^ b = c at *
  simp [IntKind.wrap, IntKind.signed, IntKind.bits]
  omega
set_option maxRecDepth 100000 in
/-- the document's step -/
theorem rstep_any (n : Nat) (hn : n < 4294967296) (w : World) :
    Calls Tryd.prog 78 #[.int .i64 (n : Int)] w fun e w' => e = .returned (.int .i64 (stp n : Int)) ∧ w = w' := by
  by_cases h2 : n % 2 = 0
  · have hq : ((n : Int) % 2 == 0) = true := by rw [show (n : Int) % 2 = 0 by omega]; rfl
    have hr : Hid ((n : Int) / 2 = (stp n : Int)) := by show _ = _; unfold stp; rw [if_pos h2]; omega
    go_enter Tryd.func78, Tryd.ntmps78
    go_wp2
    go_ret
    exact ⟨by rw [← hr.out]; rfl, rfl⟩
  · have hq : ((n : Int) % 2 == 0) = false := by rw [show (n : Int) % 2 = 1 by omega]; rfl
    have hx : bits .xor .i64 ((n : Int) / 2) 3988292384 = (stp n : Int) := by
      have := bxor64 (n / 2) 3988292384 (by omega) (by omega)
      rw [show ((n / 2 : Nat) : Int) = (n : Int) / 2 by omega] at this
      unfold stp
      rw [if_neg h2]
      exact this
    go_enter Tryd.func78, Tryd.ntmps78
    go_wp2
    go_ret
    exact ⟨rfl, rfl⟩
theorem stps_succ (k w : Nat) : stps (k + 1) w = stp (stps k w) := by rw [stps_add]; rfl
set_option maxHeartbeats 1000000 in
set_option maxRecDepth 100000 in
/-- the document's CRC -/
theorem rcrc_any (s : ByteArray) (w : World) (hs : s.size ≤ 9223372036854775807) :
    Calls Tryd.prog 72 #[.string s] w fun e w' => e = .returned (.int .i64 (crcN 0 s.data.toList : Int)) ∧ w = w' := by
  go_enter Tryd.func72, Tryd.ntmps72
  go_wp2
  go_loop [3, 4] (fun v i => ∃ k : Nat, k ≤ s.size ∧ i = .int .i64 k ∧ v = .int .i64 (crcW 4294967295 (s.data.toList.take k) : Int)) (fun _ i => s.size - (intOf i).toNat)
  case atStart => exact ⟨0, Nat.zero_le _, rfl, rfl⟩
  case round =>
    obtain ⟨k, hk, rfl, rfl⟩ := hrel
    have hW4 : crcW 4294967295 (s.data.toList.take k) < 4294967296 := crcW_lt _ (by omega)
    by_cases hlt : k < s.size
    · have hS := crcW_snoc 4294967295 s.data.toList k (by rw [size_data]; exact hlt)
      have hxs := fun w' => ix_str w' s k hlt
      rw [show s.data.toList[k]'(by rw [size_data]; exact hlt) = s[k] from rfl, crcB_eq] at hS
      have hX0 : s[k].toNat < 256 := s[k].toNat_lt
      generalize s[k].toNat = X at *
      have HS := hide hS
      clear hS
      generalize crcW 4294967295 (s.data.toList.take k) = W at *
      have h1 := bxor64 W X hW4 (by omega)
      have h1l : W ^^^ X < 4294967296 := xor32_lt hW4 (by omega)
      generalize W ^^^ X = Y at *
      go_wp2_with fail
      go_loop [3, 5] (fun v j => ∃ r : Nat, r ≤ 8 ∧ j = .int .i64 r ∧ v = .int .i64 (stps r Y : Int)) (fun _ j => 8 - (intOf j).toNat)
      case atStart => exact ⟨0, by omega, rfl, rfl⟩
      case round =>
        obtain ⟨r, hr, rfl, rfl⟩ := hrel
        have hYl := stps_lt r h1l
        have hY1 := stps_succ r Y
        have HY := hide hY1
        clear hY1
        by_cases hr8 : r < 8
        · generalize stps r Y = Z at *
          go_wp2_with (go_at_call 78; refine Calls.mono (rstep_any _ hYl _) ?_; rintro e wx ⟨rfl, rfl⟩)
          go_round
          case rel => exact ⟨r + 1, by omega, by go_num, by rw [HY.out]⟩
          case measure => simp [intOf]; omega
        · obtain rfl : r = 8 := by omega
          go_wp2_with fail
          go_round
          case rel => exact ⟨k + 1, by omega, by go_num, by rw [HS.out]⟩
          case measure => simp [intOf]; omega
    · obtain rfl : k = s.size := by omega
      rw [List.take_of_length_le (by simp)] at hW4 ⊢
      have hx : bits .xor .i64 (crcW 4294967295 s.data.toList : Int) 4294967295 = ((crcW 4294967295 s.data.toList ^^^ 4294967295 : Nat) : Int) := bxor64 _ 4294967295 hW4 (by omega)
      have HF : Hid (crcN 0 s.data.toList = crcW 4294967295 s.data.toList ^^^ 4294967295) := by show _ = _; unfold crcN; rw [Nat.xor_zero, Nat.xor_comm]
      generalize crcW 4294967295 s.data.toList ^^^ 4294967295 = Z at *
      go_wp2
      go_ret
      exact ⟨by rw [HF.out]; rfl, rfl⟩
/-- a list of the call's own -/
def OL (lo : Nat) (w : World) (v : Value) (xs : List ByteArray) : Prop :=
  (xs = [] ∧ v = .slice none 0 0) ∨ ∃ g c, lo ≤ g ∧ 0 < xs.length ∧ v = .slice (some ⟨g, 0, none⟩) xs.length c ∧ g < w.heap.size ∧ w.ownsRow lo 9 1 v xs.length (xs.map Value.string)
theorem OL_of {wr : World} {base : Nat} {ys : List ByteArray} {v : Value} (h : wr.ownsRow base 9 1 v ys.length (ys.map Value.string)) (hnil : ys = [] → v = .slice none 0 0) : OL base wr v ys := by
  by_cases h0 : ys = []
  · exact Or.inl ⟨h0, hnil h0⟩
  · have hpos : 0 < ys.length := List.length_pos_iff.2 h0
    rcases h.2 with ⟨_, hz⟩ | ⟨g, cap, cur, hv, hg, hblk, hn, hc, hcs, htake⟩
    · omega
    · refine Or.inr ⟨g, cap, hg, hpos, hv, ?_, h⟩
      rcases Nat.lt_or_ge g wr.heap.size with h' | h'
      · exact h'
      · rw [Array.getElem?_eq_none h'] at hblk; simp at hblk
theorem own_lies {w : World} {base g c : Nat} {xs : List ByteArray} (h : w.ownsRow base 9 1 (.slice (some ⟨g, 0, none⟩) xs.length c) xs.length (xs.map Value.string)) : Lies g 0 w xs := by
  intro j x hx
  have hj := (List.getElem?_eq_some_iff.1 hx).1
  rw [Nat.zero_add, h.cellAt j (by omega)]
  simp [hx]
theorem turnB_size (x : ByteArray) : (turnB x).size ≤ x.size + 1 := by
  unfold turnB
  split
  · show 1 ≤ _; omega
  · rw [strOf_size, List.length_cons, List.length_drop, size_data]; omega
theorem cat_turn (xs : List ByteArray) : (cat (xs.map turnB)).length ≤ (cat xs).length + xs.length := by
  induction xs with
  | nil => simp [cat]
  | cons a t ih =>
    have e1 : cat ((a :: t).map turnB) = (turnB a).data.toList ++ cat (t.map turnB) := by simp [cat]
    have e2 : cat (a :: t) = a.data.toList ++ cat t := by simp [cat]
    have := turnB_size a
    rw [e1, e2, List.length_append, List.length_append, size_data, size_data, List.length_cons]
    omega
theorem mem_catj {xs : List ByteArray} {x : ByteArray} (h : x ∈ xs) : x.size ≤ (cat xs).length := by
  obtain ⟨k, hk, rfl⟩ := List.getElem_of_mem h
  have h1 := cat_take_len xs (k + 1)
  rw [cat_snoc xs k hk, List.length_append, size_data] at h1
  omega
end Go.Proofs.YtgdjfocnaapooaaDoor
namespace Go.Proofs.YtgdjfocnaapooaaDoor
open Go.RowKit
def letF : Nat → UInt8
  | 3 => 69 | 4 => 83 | 5 => 86 | 6 => 80 | 7 => 67 | 8 => 75 | 9 => 87 | _ => 0
def letL (k : Nat) : List UInt8 := (bodyF k).map letF
/-- the document's table -/
def TabR (w : World) : Prop := ∀ k, k ≤ 16 → w.cell? ⟨4, k, none⟩ = some (.string (strOf (letL k)))
theorem TabR.below {w w' : World} (h : TabR w) (hb : Below w.heap.size w w') : TabR w' := fun k hk => (hb.cell (World.block_lt_of_cell? w _ (h k hk))).trans (h k hk)
theorem letL_len (k : Nat) (h : k ≤ 16) : (letL k).length ≤ 6 := by unfold letL; rw [List.length_map]; exact bodyF_len k h
theorem letF_memF : ∀ k : Fin 17, ∀ i : Fin 10, 3 ≤ i.1 → (letF i.1 ∈ letL k.1 ↔ i.1 ∈ bodyF k.1) := by decide +kernel
theorem letF_mem (k : Nat) (hk : k ≤ 16) (i : Nat) (hi : i < 10) (h3 : 3 ≤ i) : letF i ∈ letL k ↔ i ∈ bodyF k := letF_memF ⟨k, by omega⟩ ⟨i, hi⟩ h3
set_option maxHeartbeats 1000000 in
set_option maxRecDepth 100000 in
/-- has -/
theorem has_any (k : Nat) (h16 : k ≤ 16) (b : UInt8) (w : World) (hT : TabR w) :
    Calls Tryd.prog 77 #[.int .i64 (k : Int), .int .u8 (b.toNat : Int)] w fun e w' => e = .returned (.bool (decide (b ∈ letL k))) ∧ w = w' := by
  have z := hT k h16
  have hkk : (k : Int) < 17 := by omega
  have hlen := letL_len k h16
  obtain ⟨R, hR⟩ : ∃ R : Bool, R = decide (b ∈ letL k) := ⟨_, rfl⟩
  rw [← hR]
  have HR := hide hR
  clear hR hT
  obtain ⟨S, hS⟩ : ∃ S, S = strOf (letL k) := ⟨_, rfl⟩
  rw [← hS] at z
  have hsd : S.data.toList = letL k := by rw [hS, strOf_data]
  have hsz : S.size = (letL k).length := by rw [hS, strOf_size]
  clear hS
  go_enter Tryd.func77, Tryd.ntmps77
  go_wp2
  go_loop [6] (fun v => ∃ q : Nat, q ≤ S.size ∧ v = .int .i64 q ∧ Hid (b ∉ (letL k).take q)) (fun v => S.size - (intOf v).toNat)
  case atStart => exact ⟨0, Nat.zero_le _, rfl, by simp [Hid]⟩
  case round =>
    obtain ⟨q, hq, rfl, hA⟩ := hrel
    by_cases hlt : q < S.size
    · have hxs : ∀ w', (Instr.index 9 (.string S) (.int .i64 (q : Int))).run Tryd.prog w' = .ok (.int .u8 (S[q].toNat : Int)) w' := fun w' => ix_str w' S q hlt
      have hx : S[q] = (letL k)[q]'(by omega) := by
        have : S[q] = S.data.toList[q]'(by rw [size_data]; exact hlt) := rfl
        rw [this]; simp only [hsd]
      have HT := hide (List.take_succ_eq_append_getElem (i := q) (l := letL k) (by omega))
      have HM := hide (List.getElem_mem (l := letL k) (n := q) (by omega))
      rw [← hx] at HT HM
      clear hx
      generalize S[q] = c at *
      by_cases hc : c = b
      · subst hc
        go_wp2
        go_ret
        exact ⟨ret_bool (by rw [HR.out, decide_eq_true HM.out]), rfl⟩
      · have hc' : ¬ (c.toNat : Int) = (b.toNat : Int) := fun h => hc (UInt8.toNat_inj.1 (by omega))
        go_wp2
        go_round
        case rel => exact ⟨q + 1, by omega, by go_num, by show b ∉ _; rw [HT.out]; intro hm; rcases List.mem_append.1 hm with hm | hm; exact hA.out hm; simp at hm; exact hc hm.symm⟩
        case measure => simp [intOf]; omega
    · obtain rfl : q = S.size := by omega
      have hA' := hA.out
      rw [List.take_of_length_le (by omega)] at hA'
      have HA := hide hA'
      clear hA' hA
      go_wp2
      go_ret
      exact ⟨ret_bool (by rw [HR.out, decide_eq_false HA.out]), rfl⟩
def fitsN (h : Bool) (n most : Int) : Bool := if h then decide (0 ≤ n) && decide (n ≤ most) else decide (n = 0)
set_option maxHeartbeats 1000000 in
set_option maxRecDepth 100000 in
/-- fits -/
theorem fits_any (k : Nat) (h16 : k ≤ 16) (b : UInt8) (n most : Int) (w : World) (hT : TabR w) :
    Calls Tryd.prog 70 #[.int .i64 (k : Int), .int .u8 (b.toNat : Int), .int .i64 n, .int .i64 most] w fun e w' => e = .returned (.bool (fitsN (decide (b ∈ letL k)) n most)) ∧ w = w' := by
  have C := hide (has_any k h16 b w hT)
  cases hh : decide (b ∈ letL k) with
  | false =>
    rw [hh] at C
    have hR : fitsN false n most = (n == 0) := by unfold fitsN; simp; rfl
    rw [hR]
    go_enter Tryd.func70, Tryd.ntmps70
    go_wp2_with fail
    refine Calls.mono C.out ?_
    rintro e w1 ⟨rfl, rfl⟩
    go_wp2_with fail
    go_ret
    exact ⟨rfl, rfl⟩
  | true =>
    rw [hh] at C
    by_cases h0 : 0 ≤ n
    · by_cases h1 : n ≤ most
      · have hR := hide (show fitsN true n most = true by unfold fitsN; rw [if_pos rfl, decide_eq_true h0, decide_eq_true h1]; rfl)
        go_enter Tryd.func70, Tryd.ntmps70
        go_wp2_with fail
        refine Calls.mono C.out ?_
        rintro e w1 ⟨rfl, rfl⟩
        go_wp2_with fail
        go_ret
        exact ⟨ret_bool hR.out.symm, rfl⟩
      · have hR := hide (show fitsN true n most = false by unfold fitsN; rw [if_pos rfl, decide_eq_false h1, Bool.and_false])
        have HD := hide (decide_eq_false h1)
        go_enter Tryd.func70, Tryd.ntmps70
        go_wp2_with fail
        refine Calls.mono C.out ?_
        rintro e w1 ⟨rfl, rfl⟩
        go_wp2_with fail
        go_ret
        exact ⟨ret_bool (by rw [hR.out]; first | rfl | exact HD.out), rfl⟩
    · have hR := hide (show fitsN true n most = false by unfold fitsN; rw [if_pos rfl, decide_eq_false h0, Bool.false_and])
      go_enter Tryd.func70, Tryd.ntmps70
      go_wp2_with fail
      refine Calls.mono C.out ?_
      rintro e w1 ⟨rfl, rfl⟩
      go_wp2_with fail
      go_ret
      exact ⟨ret_bool hR.out.symm, rfl⟩
def fitsT (h : Bool) (n most : Nat) : Bool := if h then decide (n ≤ most) else decide (n = 0)
set_option maxHeartbeats 1000000 in
set_option maxRecDepth 100000 in
/-- textFits -/
theorem textFits_any (k : Nat) (h16 : k ≤ 16) (b : UInt8) (s : ByteArray) (most : Nat) (w : World) (hT : TabR w) :
    Calls Tryd.prog 71 #[.int .i64 (k : Int), .int .u8 (b.toNat : Int), .string s, .int .i64 (most : Int)] w fun e w' => e = .returned (.bool (fitsT (decide (b ∈ letL k)) s.size most)) ∧ w = w' := by
  have C := hide (has_any k h16 b w hT)
  cases hh : decide (b ∈ letL k) with
  | false =>
    rw [hh] at C
    have hR : fitsT false s.size most = s.toList.isEmpty := by
      unfold fitsT
      rw [ByteArray.toList_eq, ← size_data s]
      cases s.data.toList <;> simp
    rw [hR]
    go_enter Tryd.func71, Tryd.ntmps71
    go_wp2_with fail
    refine Calls.mono C.out ?_
    rintro e w1 ⟨rfl, rfl⟩
    go_wp2_with fail
    go_ret
    exact ⟨rfl, rfl⟩
  | true =>
    rw [hh] at C
    have hR : fitsT true s.size most = decide (s.size ≤ most) := by
      unfold fitsT
      rw [if_pos rfl]
    rw [hR]
    go_enter Tryd.func71, Tryd.ntmps71
    go_wp2_with fail
    refine Calls.mono C.out ?_
    rintro e w1 ⟨rfl, rfl⟩
    go_wp2_with fail
    go_ret
    exact ⟨rfl, rfl⟩
end Go.Proofs.YtgdjfocnaapooaaDoor
namespace Go.Proofs.YtgdjfocnaapooaaDoor
open Go.RowKit
/-- the statement's own table of what a kind has -/
def TabK (W : World) : Prop := ∀ k, k ≤ 16 → W.cell? ⟨0, k, none⟩ = some (.string (strOf (letL k)))
theorem TabK.below {w w' : World} (h : TabK w) (hb : Below w.heap.size w w') : TabK w' := fun k hk => (hb.cell (World.block_lt_of_cell? w _ (h k hk))).trans (h k hk)
end Go.Proofs.YtgdjfocnaapooaaDoor
namespace Go.Proofs.YtgdjfocnaapooaaDoor
open Go.ChangeShapes Go.WideShapes Go.ChangeAt Go.RowKit Go.Deep Go.Lib
theorem cellsFlds : Tryd.prog.cellsOf 87 = 17 * 1 := by kernel_rfl
def fieldsD : List (DataW Unit) := (List.range 17).map fun k => .lit (.string (letL k))
theorem fields_of {W : World} {name : String} (h : VarReads Tryd.prog W name (.agg fieldsD)) (hg : Tryd.prog.globalNamed name = some 4) (hty : (Tryd.prog.globals[4]?).map (·.type) = some 87) : TabR W := by
  obtain ⟨g', t', cs, fuel, p, hg', ht', hvar, hdd⟩ := h
  obtain rfl := Option.some.inj (hg.symm.trans hg')
  obtain rfl := Option.some.inj (hty.symm.trans ht')
  obtain ⟨f2, ha⟩ := arr_at Tryd.underlying87 cellsS9 cellsFlds hdd
  intro k hk
  obtain ⟨d, q, hd, ht⟩ := ha k (by omega)
  have e : fieldsD[k]? = some (.lit (.string (letL k))) := by unfold fieldsD; rw [List.getElem?_map, List.getElem?_range (by omega)]; rfl
  rw [e] at hd
  obtain rfl := Option.some.inj hd
  obtain ⟨s, e0, e1, _⟩ := DataW.trod_string Tryd.underlying9 ht
  have c := one_cell e0
  rw [World.var?_cell hg hvar k, ← Array.getElem?_toList, c]
  simp only [Prod.mk.injEq] at e1
  have := lit_str e1.1
  rw [this, strOf_toList]
theorem kinds_of {W : World} {name : String} (h : VarReads Tryd.prog W name (.agg fieldsD)) (hg : Tryd.prog.globalNamed name = some 0) (hty : (Tryd.prog.globals[0]?).map (·.type) = some 87) : TabK W := by
  obtain ⟨g', t', cs, fuel, p, hg', ht', hvar, hdd⟩ := h
  obtain rfl := Option.some.inj (hg.symm.trans hg')
  obtain rfl := Option.some.inj (hty.symm.trans ht')
  obtain ⟨f2, ha⟩ := arr_at Tryd.underlying87 cellsS9 cellsFlds hdd
  intro k hk
  obtain ⟨d, q, hd, ht⟩ := ha k (by omega)
  have e : fieldsD[k]? = some (.lit (.string (letL k))) := by unfold fieldsD; rw [List.getElem?_map, List.getElem?_range (by omega)]; rfl
  rw [e] at hd
  obtain rfl := Option.some.inj hd
  obtain ⟨s, e0, e1, _⟩ := DataW.trod_string Tryd.underlying9 ht
  have c := one_cell e0
  rw [World.var?_cell hg hvar k, ← Array.getElem?_toList, c]
  simp only [Prod.mk.injEq] at e1
  have := lit_str e1.1
  rw [this, strOf_toList]
end Go.Proofs.YtgdjfocnaapooaaDoor
namespace Go.Proofs.YtgdjfocnaapooaaDoor
open Go.RowKit
theorem u64_in {x : Int} (h0 : 0 ≤ x) (h1 : x < 18446744073709551616) : IntKind.u64.wrap x = x := by
  simp [IntKind.wrap, IntKind.signed, IntKind.bits]; omega
theorem bor64B (a b : Nat) (ha : a < 72057594037927936) (hb : b < 256) : bits .or .u64 ((a : Int) * 256) (b : Int) = ((a * 256 + b : Nat) : Int) := by
  have hx : 2 ^ 8 * a + b = 2 ^ 8 * a ||| b := Nat.two_pow_add_eq_or_of_lt (by omega) a
  have o : ∀ c : Nat, c < 18446744073709551616 → (BitVec.ofInt 64 (c : Int)).toNat = c := fun c hc => by
    rw [BitVec.ofInt_natCast, BitVec.toNat_ofNat]; exact Nat.mod_eq_of_lt (by omega)
  show IntKind.u64.wrap ((BitVec.ofInt 64 ((a : Int) * 256) ||| BitVec.ofInt 64 (b : Int)).toNat : Int) = _
  rw [show (a : Int) * 256 = ((256 * a : Nat) : Int) by omega, BitVec.toNat_or, o (256 * a) (by omega), o b (by omega)]
  rw [show 256 * a = 2 ^ 8 * a by omega, ← hx, u64_in (by omega) (by omega)]
  omega
set_option maxHeartbeats 1000000 in
set_option maxRecDepth 100000 in
/-- Take, of at most eight bytes -/
theorem takeN_any (s : ByteArray) (hs : s.size ≤ 8) (w : World) :
    Calls Tryd.prog 66 #[.string s] w fun e w' => e = .returned (.int .i64 (wrap64 (val s.data.toList : Int))) ∧ w = w' := by
  go_enter Tryd.func66, Tryd.ntmps66
  go_wp2
  go_loopw [3, 4, 7] (fun n _ i wr => ∃ k : Nat, k ≤ s.size ∧ i = .int .i64 (k : Int) ∧ n = .int .u64 (val (s.data.toList.take k) : Int) ∧ w = wr)
    (fun _ _ i _ => s.size - (intOf i).toNat)
  case atStart => exact ⟨0, by omega, rfl, rfl, rfl⟩
  case round =>
    obtain ⟨k, hk, rfl, rfl, rfl⟩ := hrel
    by_cases hlt : k < s.size
    · have hx : ∀ w', (Instr.index 9 (.string s) (.int .i64 (k : Int))).run Tryd.prog w' = .ok (.int .u8 (s[k].toNat : Int)) w' := fun w' => ix_str w' s k hlt
      have hX : s[k].toNat < 256 := s[k].toNat_lt
      have hv := val_take s.data.toList k (by rw [size_data]; exact hlt)
      rw [show s.data.toList[k]'(by rw [size_data]; exact hlt) = s[k] from rfl] at hv
      have hN : val (s.data.toList.take k) < 72057594037927936 := by
        refine Nat.lt_of_lt_of_le (val_lt _) ?_
        rw [List.length_take, size_data, Nat.min_eq_left hk]
        exact Nat.le_trans (Nat.pow_le_pow_right (by omega) (show k ≤ 7 by omega)) (by decide)
      generalize s[k].toNat = X at *
      generalize val (s.data.toList.take k) = N at *
      have HV := hide hv
      clear hv
      have hor := bor64B N X hN hX
      go_wp2
      go_roundw
      case rel => exact ⟨k + 1, by omega, by go_num, by rw [HV.out]; norm_cast, trivial⟩
      case measure => simp [intOf]; omega
    · obtain rfl : k = s.size := by omega
      have hV : val s.data.toList < 18446744073709551616 := by
        refine Nat.lt_of_lt_of_le (val_lt _) ?_
        rw [size_data]
        exact Nat.le_trans (Nat.pow_le_pow_right (by omega) hs) (by decide)
      rw [List.take_of_length_le (by simp)]
      go_wp2
      go_ret
      exact ⟨rfl, rfl⟩
end Go.Proofs.YtgdjfocnaapooaaDoor
