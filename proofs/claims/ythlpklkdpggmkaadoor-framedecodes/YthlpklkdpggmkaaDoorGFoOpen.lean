import Derived.Test.YthlpklkdpggmkaaDoorRows
import Derived.Test.YthlpklkdpggmkaaDoorGFeWrite
import Derived.Lib.LaidTab
import Derived.Lib.LaidU8
import Derived.ProofKit
import Derived.OpenShut
import Derived.SizedLaws
import Derived.Deep.SlicePairs
import Derived.Lib.SmallJoins
namespace Go.Proofs.YthlpklkdpggmkaaDoor
open Go.ChangeShapes Go.WideShapes Go.ChangeAt Go.RowKit Go.Deep Go.Lib
theorem cellsI : Tryd.prog.cellsOf 3 = 1 := by kernel_rfl
theorem cellsS9 : Tryd.prog.cellsOf 9 = 1 := by kernel_rfl
theorem cellsB4 : Tryd.prog.cellsOf 4 = 1 := by kernel_rfl
theorem cellsFld : Tryd.prog.cellsOf 62 = 1 := by kernel_rfl
theorem cellsShp : Tryd.prog.cellsOf 65 = 3 := by kernel_rfl
theorem cellsShps : Tryd.prog.cellsOf 66 = 10 * 3 := by kernel_rfl
theorem cellsSl : Tryd.prog.cellsOf 67 = 1 := by kernel_rfl
theorem cellsSls : Tryd.prog.cellsOf 68 = 17 * 1 := by kernel_rfl
theorem cellsHds : Tryd.prog.cellsOf 63 = 3 := by kernel_rfl
theorem cellsMsg : Tryd.prog.cellsOf 26 = 11 := by kernel_rfl
theorem cellsErr : Tryd.prog.cellsOf 22 = 1 := by kernel_rfl
theorem arr_at {t e : TypeId} {n s : Nat} {W : World} {sp : Nat → Bool} {fuel : Nat} {cs : List Value} {ds : List (DataW Unit)} {p : List MemPlace} (ht : Tryd.prog.underlying t = some (.array n e)) (ce : Tryd.prog.cellsOf e = s) (ct : Tryd.prog.cellsOf t = n * s) (h : DataW.trod (fun _ => ()) Tryd.prog W 0 sp false fuel t cs = some (.agg ds, p)) : ∃ f2, ∀ i, i < n → ∃ d q, ds[i]? = some d ∧ DataW.trod (fun _ => ()) Tryd.prog W 0 sp false f2 e ((cs.drop (i * s)).take s) = some (d, q) := by
  cases fuel with
  | zero => simp [DataW.trod] at h
  | succ fuel =>
    simp only [DataW.trod, ht, ce, ct] at h
    split at h
    · obtain ⟨xs, hm, hx⟩ := Option.map_eq_some_iff.1 h
      have hxs : xs.map (·.1) = ds := by
        have := congrArg Prod.fst hx
        simpa using this
      refine ⟨fuel, fun i hi => ?_⟩
      obtain ⟨b, hb, hf⟩ := mapM_at hm i i (by simp [hi])
      exact ⟨b.1, b.2, by rw [← hxs]; simp [hb], hf⟩
    · cases h
theorem one_cell {cs : List Value} {j : Nat} {v : Value} (h : (cs.drop (j * 1)).take 1 = [v]) : cs[j]? = some v := by
  have h2 : ((cs.drop (j * 1)).take 1)[0]? = some v := by rw [h]; rfl
  rw [List.getElem?_take_of_lt (by omega), List.getElem?_drop] at h2
  simpa using h2
theorem lit_str {H : Type} {a b : List UInt8} (h : (DataW.lit (.string a) : DataW H) = .lit (.string b)) : a = b := by injection h with h; injection h
theorem lit_int {H : Type} {k l : IntKind} {a b : Int} (h : (DataW.lit (.int k a) : DataW H) = .lit (.int l b)) : a = b := by injection h with h; injection h
theorem lit_bool {H : Type} {a b : Bool} (h : (DataW.lit (.bool a) : DataW H) = .lit (.bool b)) : a = b := by injection h with h; injection h
/-- what is laid, as lists -/
def shapesD : List (DataW Unit) := (List.range 10).map fun i => .agg [.lit (.int .i64 (widF i : Int)), .lit (.int .i64 (mostF i : Int)), .lit (.bool (isTx i))]
def bodiesD : List (DataW Unit) := .nil :: (List.range 16).map fun k => .slice ((bodyF (k + 1)).map fun i : Nat => .lit (.int .i64 (i : Int))) []
theorem list3 {α : Type} {l : List α} (h : l.length = 3) : ∃ a0 a1 a2, l = [a0, a1, a2] := by
  match l, h with
  | [a0, a1, a2], _ => exact ⟨a0, a1, a2, rfl⟩
theorem shapes_of {W : World} {name : String} (h : VarReads Tryd.prog W name (.agg shapesD)) (hg : Tryd.prog.globalNamed name = some 2) (hty : (Tryd.prog.globals[2]?).map (·.type) = some 66) :
    ∀ i, i < 10 → W.cell? ⟨2, i * 3, none⟩ = some (.int .i64 (widF i : Int)) ∧ W.cell? ⟨2, i * 3 + 1, none⟩ = some (.int .i64 (mostF i : Int)) ∧ W.cell? ⟨2, i * 3 + 2, none⟩ = some (.bool (isTx i)) := by
  obtain ⟨g', t', cs, fuel, p, hg', ht', hvar, hdd⟩ := h
  obtain rfl := Option.some.inj (hg.symm.trans hg')
  obtain rfl := Option.some.inj (hty.symm.trans ht')
  obtain ⟨f2, ha⟩ := arr_at Tryd.underlying66 cellsShp cellsShps hdd
  intro i hi
  obtain ⟨d, q, hd, ht⟩ := ha i hi
  have e : shapesD[i]? = some (.agg [.lit (.int .i64 (widF i : Int)), .lit (.int .i64 (mostF i : Int)), .lit (.bool (isTx i))]) := by unfold shapesD; rw [List.getElem?_map, List.getElem?_range hi]; rfl
  rw [e] at hd
  obtain rfl := Option.some.inj hd
  obtain ⟨xs, n, _, hx, hlen, hxl, hq⟩ := DataW.trod_struct Tryd.underlying65 ht
  obtain ⟨y0, y1, y2, rfl⟩ := list3 hxl
  rw [cellsShp] at hlen
  obtain ⟨v0, v1, v2, hv⟩ := list3 hlen
  have g0 := hq 0 _ rfl
  have g1 := hq 1 _ rfl
  have g2 := hq 2 _ rfl
  rw [hv] at g0 g1 g2
  simp [cellsI, cellsB4] at g0 g1 g2
  obtain ⟨n0, f0, z0, _⟩ := DataW.trod_int Tryd.underlying3 g0
  obtain ⟨n1, f1', z1, _⟩ := DataW.trod_int Tryd.underlying3 g1
  obtain ⟨b2, f2', z2⟩ := DataW.trod_bool Tryd.underlying4 g2
  simp only [List.cons.injEq, and_true] at f0 f1' f2'
  subst f0 f1' f2' z0 z1 z2
  simp only [Prod.mk.injEq, List.map_cons, List.map_nil, DataW.agg.injEq, List.cons.injEq, and_true] at hx
  obtain ⟨⟨e0, e1, e2⟩, _⟩ := hx
  have cell : ∀ j v, [Value.int .i64 n0, Value.int .i64 n1, Value.bool b2][j]? = some v → W.cell? ⟨2, i * 3 + j, none⟩ = some v := fun j v hj => by
    have hj3 : j < 3 := (List.getElem?_eq_some_iff.1 hj).1
    rw [World.var?_cell hg hvar (i * 3 + j), ← Array.getElem?_toList]
    rw [← hv, List.getElem?_take_of_lt hj3, List.getElem?_drop] at hj
    exact hj
  exact ⟨by rw [lit_int e0]; exact cell 0 _ rfl, by rw [lit_int e1]; exact cell 1 _ rfl, by rw [lit_bool e2]; exact cell 2 _ rfl⟩
theorem bodies_of {W : World} {name : String} (h : VarReads Tryd.prog W name (.agg bodiesD)) (hg : Tryd.prog.globalNamed name = some 3) (hty : (Tryd.prog.globals[3]?).map (·.type) = some 68) :
    ∀ k, 1 ≤ k → k ≤ 16 → ∃ (ao : Option Addr) (b o cap : Nat), W.cell? ⟨3, k, none⟩ = some (.slice ao (bodyF k).length cap) ∧ (0 < (bodyF k).length → ao = some ⟨b, o, none⟩) ∧ ∀ j (h : j < (bodyF k).length), W.cell? ⟨b, o + j, none⟩ = some (.int .i64 ((bodyF k)[j] : Int)) := by
  obtain ⟨g', t', cs, fuel, p, hg', ht', hvar, hdd⟩ := h
  obtain rfl := Option.some.inj (hg.symm.trans hg')
  obtain rfl := Option.some.inj (hty.symm.trans ht')
  obtain ⟨f2, ha⟩ := arr_at Tryd.underlying68 cellsSl cellsSls hdd
  intro k h1 h16
  obtain ⟨d, q, hd, ht⟩ := ha k (by omega)
  have e : bodiesD[k]? = some (.slice ((bodyF k).map fun i : Nat => .lit (.int .i64 (i : Int))) []) := by
    obtain ⟨k, rfl⟩ : ∃ k', k = k' + 1 := ⟨k - 1, by omega⟩
    unfold bodiesD; rw [List.getElem?_cons_succ, List.getElem?_map, List.getElem?_range (by omega)]; rfl
  rw [e] at hd
  obtain rfl := Option.some.inj hd
  rcases open_slice Tryd.underlying67 ht with ⟨_, hx⟩ | ⟨a, len, cap, mm, n, D, Pl, hcs, _, hl, hm, hmm, hx, hcell⟩
  · simp at hx
  · simp only [Prod.mk.injEq, DataW.slice.injEq] at hx
    have hln : (bodyF k).length = len := by have := congrArg List.length hx.1.1; simpa using this
    subst hln
    have c := one_cell hcs
    have hmle : (bodyF k).length ≤ mm := by rw [hmm]; split <;> omega
    obtain ⟨ab, ao, asp⟩ := a
    have each : ∀ j (hj : j < (bodyF k).length), W.cell? ((⟨ab, ao, asp⟩ : Addr).add j) = some (.int .i64 ((bodyF k)[j] : Int)) := fun j hj => by
      obtain ⟨cs', x1, x2⟩ := hcell j (by omega)
      rw [cellsFld, Nat.mul_one] at x1
      obtain ⟨_, hlen, hce⟩ := World.cells?_some x1
      have dj : D j = .lit (.int .i64 ((bodyF k)[j] : Int)) := by
        have := congrArg (fun l => l[j]?) hx.1.1
        simp only [List.getElem?_map, List.getElem?_range hj, List.getElem?_eq_getElem hj, Option.map_some, Option.some.injEq] at this
        exact this.symm
      rw [dj] at x2
      obtain ⟨z, f0, z0, _⟩ := DataW.trod_int Tryd.underlying62 x2
      subst f0
      simp only [Prod.mk.injEq] at z0
      have hz := lit_int z0.1
      have := hce 0 (by omega)
      rw [hz]
      simpa [Addr.add] using this
    have hsp : 0 < (bodyF k).length → asp = none := fun h => by simpa [Addr.add] using World.cell?_spot (each 0 h)
    refine ⟨some ⟨ab, ao, asp⟩, ab, ao, cap, by rw [World.var?_cell hg hvar k, ← Array.getElem?_toList, c], fun h => by rw [hsp h], fun j hj => ?_⟩
    have := each j hj
    rw [hsp (by omega), add_plain] at this
    exact this
theorem list11 {α : Type} {l : List α} (h : l.length = 11) : ∃ a0 a1 a2 a3 a4 a5 a6 a7 a8 a9 a10, l = [a0, a1, a2, a3, a4, a5, a6, a7, a8, a9, a10] := by
  match l, h with
  | [a0, a1, a2, a3, a4, a5, a6, a7, a8, a9, a10], _ => exact ⟨a0, a1, a2, a3, a4, a5, a6, a7, a8, a9, a10, rfl⟩
theorem array11 {α : Type} {l : Array α} (h : l.size = 11) : ∃ a0 a1 a2 a3 a4 a5 a6 a7 a8 a9 a10, l = #[a0, a1, a2, a3, a4, a5, a6, a7, a8, a9, a10] := by
  obtain ⟨l⟩ := l
  obtain ⟨a0, a1, a2, a3, a4, a5, a6, a7, a8, a9, a10, h⟩ := list11 (l := l) (by simpa using h)
  exact ⟨a0, a1, a2, a3, a4, a5, a6, a7, a8, a9, a10, by rw [h]⟩
set_option maxRecDepth 100000 in
set_option maxHeartbeats 1000000 in
/-- a message that is handed in -/
theorem open_msg {H : Type} {enc : TypeId × Value → H} {w : World} {r : Reach} {b0 base : Nat} {spare : Nat → Bool} {held : Bool} {v : Value} {d : DataW H} {p : List MemPlace} (hv : Value.okWide Tryd.prog w r b0 26 v) (h : DataW.Trod enc Tryd.prog w base spare held 26 v d p) :
    ∃ m : MM, v = .agg (msgV m) ∧ p = [] := by
  obtain ⟨cs, rfl, hsz⟩ := okWide_struct Tryd.underlying26 hv
  obtain ⟨a0, a1, a2, a3, a4, a5, a6, a7, a8, a9, a10, rfl⟩ := array11 (hsz.trans cellsMsg)
  obtain ⟨fuel, hf⟩ := h
  obtain ⟨xs, n, _, hx, _, hxl, hq⟩ := DataW.trod_struct Tryd.underlying26 hf
  obtain ⟨y0, y1, y2, y3, y4, y5, y6, y7, y8, y9, y10, rfl⟩ := list11 hxl
  have g0 := hq 0 _ rfl
  have g1 := hq 1 _ rfl
  have g2 := hq 2 _ rfl
  have g3 := hq 3 _ rfl
  have g4 := hq 4 _ rfl
  have g5 := hq 5 _ rfl
  have g6 := hq 6 _ rfl
  have g7 := hq 7 _ rfl
  have g8 := hq 8 _ rfl
  have g9 := hq 9 _ rfl
  have g10 := hq 10 _ rfl
  simp [Value.cells, cellsI, cellsS9, cellsErr] at g0 g1 g2 g3 g4 g5 g6 g7 g8 g9 g10
  obtain ⟨n0, f0, z0, w0⟩ := DataW.trod_int Tryd.underlying3 g0
  obtain ⟨n1, f1, z1, w1⟩ := DataW.trod_int Tryd.underlying3 g1
  obtain ⟨n2, f2, z2, w2⟩ := DataW.trod_int Tryd.underlying3 g2
  obtain ⟨n3, f3, z3, w3⟩ := DataW.trod_int Tryd.underlying3 g3
  obtain ⟨n4, f4, z4, w4⟩ := DataW.trod_int Tryd.underlying3 g4
  obtain ⟨n5, f5, z5, w5⟩ := DataW.trod_int Tryd.underlying3 g5
  obtain ⟨n6, f6, z6, w6⟩ := DataW.trod_int Tryd.underlying3 g6
  obtain ⟨n7, f7, z7, w7⟩ := DataW.trod_int Tryd.underlying3 g7
  obtain ⟨n8, f8, z8, w8⟩ := DataW.trod_int Tryd.underlying22 g8
  obtain ⟨s9, f9, z9, w9⟩ := DataW.trod_string Tryd.underlying9 g9
  obtain ⟨s10, f10, z10, w10⟩ := DataW.trod_string Tryd.underlying9 g10
  simp only [List.cons.injEq, and_true] at f0 f1 f2 f3 f4 f5 f6 f7 f8 f9 f10
  subst f0 f1 f2 f3 f4 f5 f6 f7 f8 f9 f10
  simp only [Prod.mk.injEq] at hx
  refine ⟨⟨n0, n1, n2, n3, n4, n5, n6, n7, n8, s9, s10⟩, rfl, ?_⟩
  rw [hx.2, z0, z1, z2, z3, z4, z5, z6, z7, z8, z9, z10]; rfl
end Go.Proofs.YthlpklkdpggmkaaDoor
namespace Go.Proofs.YthlpklkdpggmkaaDoor
open Go.RowKit
theorem u64_in {x : Int} (h0 : 0 ≤ x) (h1 : x < 18446744073709551616) : IntKind.u64.wrap x = x := by
  simp [IntKind.wrap, IntKind.signed, IntKind.bits]; omega
theorem bor64B (a b : Nat) (ha : a < 72057594037927936) (hb : b < 256) : bits .or .u64 ((a : Int) * 256) (b : Int) = ((a * 256 + b : Nat) : Int) := by
  have hx : 2 ^ 8 * a + b = 2 ^ 8 * a ||| b := Nat.two_pow_add_eq_or_of_lt (by omega) a
  have o : ∀ c : Nat, c < 18446744073709551616 → (BitVec.ofInt 64 (c : Int)).toNat = c := fun c hc => by
    rw [BitVec.ofInt_natCast, BitVec.toNat_ofNat]; exact Nat.mod_eq_of_lt (by omega)
  show IntKind.u64.wrap ((BitVec.ofInt 64 ((a : Int) * 256) ||| BitVec.ofInt 64 (b : Int)).toNat : Int) = _
  rw [show (a : Int) * 256 = ((256 * a : Nat) : Int) by omega, BitVec.toNat_or, o (256 * a) (by omega), o b (by omega)]
  rw [show 256 * a = 2 ^ 8 * a by omega, ← hx, u64_in (by omega) (by omega)]
  omega
set_option maxHeartbeats 1000000 in
set_option maxRecDepth 100000 in
/-- Take, of at most eight bytes -/
theorem takeN_any (s : ByteArray) (hs : s.size ≤ 8) (w : World) :
    Calls Tryd.prog 45 #[.string s] w fun e w' => e = .returned (.int .i64 (wrap64 (val s.data.toList : Int))) ∧ w = w' := by
  go_enter Tryd.func45, Tryd.ntmps45
  go_wp2
  go_loopw [3, 4, 7] (fun n _ i wr => ∃ k : Nat, k ≤ s.size ∧ i = .int .i64 (k : Int) ∧ n = .int .u64 (val (s.data.toList.take k) : Int) ∧ w = wr)
    (fun _ _ i _ => s.size - (intOf i).toNat)
  case atStart => exact ⟨0, by omega, rfl, rfl, rfl⟩
  case round =>
    obtain ⟨k, hk, rfl, rfl, rfl⟩ := hrel
    by_cases hlt : k < s.size
    · have hx : ∀ w', (Instr.index 9 (.string s) (.int .i64 (k : Int))).run Tryd.prog w' = .ok (.int .u8 (s[k].toNat : Int)) w' := fun w' => ix_str w' s k hlt
      have hX : s[k].toNat < 256 := s[k].toNat_lt
      have hv := val_take s.data.toList k (by rw [size_data]; exact hlt)
      rw [show s.data.toList[k]'(by rw [size_data]; exact hlt) = s[k] from rfl] at hv
      have hN : val (s.data.toList.take k) < 72057594037927936 := by
        refine Nat.lt_of_lt_of_le (val_lt _) ?_
        rw [List.length_take, size_data, Nat.min_eq_left hk]
        exact Nat.le_trans (Nat.pow_le_pow_right (by omega) (show k ≤ 7 by omega)) (by decide)
      generalize s[k].toNat = X at *
      generalize val (s.data.toList.take k) = N at *
      have HV := hide hv
      clear hv
      have hor := bor64B N X hN hX
      go_wp2
      go_roundw
      case rel => exact ⟨k + 1, by omega, by go_num, by rw [HV.out]; norm_cast, trivial⟩
      case measure => simp [intOf]; omega
    · obtain rfl : k = s.size := by omega
      have hV : val s.data.toList < 18446744073709551616 := by
        refine Nat.lt_of_lt_of_le (val_lt _) ?_
        rw [size_data]
        exact Nat.le_trans (Nat.pow_le_pow_right (by omega) hs) (by decide)
      rw [List.take_of_length_le (by simp)]
      go_wp2
      go_ret
      exact ⟨rfl, rfl⟩
end Go.Proofs.YthlpklkdpggmkaaDoor
namespace Go.Proofs.YthlpklkdpggmkaaDoor
open Go.RowKit
/-- what a field's read takes from the beginning of a text -/
def rdF (i : Nat) (s : ByteArray) : Option (Int × ByteArray × ByteArray) :=
  if s.size < widF i then none else
  if isTx i = false then some (wrap64 (val (s.data.toList.take (widF i)) : Int), ⟨#[]⟩, s.extract (widF i) s.size) else
  if s.size < widF i + val (s.data.toList.take (widF i)) then none else
  some (0, s.extract (widF i) (widF i + val (s.data.toList.take (widF i))), s.extract (widF i + val (s.data.toList.take (widF i))) s.size)
def rdVF (o : Option (Int × ByteArray × ByteArray)) : Value := match o with
  | none => .tuple #[.agg #[.int .i64 0, .string ⟨#[]⟩], .string ⟨#[]⟩, .bool false]
  | some (n, t, r) => .tuple #[.agg #[.int .i64 n, .string t], .string r, .bool true]
set_option maxHeartbeats 2000000 in
set_option maxRecDepth 100000 in
theorem fldRead_short (i : Nat) (hi : i < 10) (s : ByteArray) (w : World) (hT : TabF w) (h : s.size < widF i) :
    Calls Tryd.prog 36 #[.int .i64 (i : Int), .string s] w fun e w' => e = .returned (rdVF none) ∧ Below w.heap.size w w' := by
  unfold rdVF
  obtain ⟨W0, hW0⟩ : ∃ W0, W0 = w.alloc (.cells #[.int .i64 0, .string ⟨#[]⟩] 43) := ⟨_, rfl⟩
  have b0 : Below w.heap.size w W0 := by rw [hW0]; exact (Below.refl _ w).alloc (Nat.le_refl _) _
  have z := (hT.below b0).wid i hi
  have hii : (i : Int) < 10 := by omega
  have hlt : (s.size : Int) < (widF i : Int) := by omega
  have c0 : W0.cell? ⟨w.heap.size, 0, none⟩ = some (.int .i64 0) := by rw [hW0]; simp
  have c1 : W0.cell? ⟨w.heap.size, 1, none⟩ = some (.string ⟨#[]⟩) := by rw [hW0]; simp
  have f0 : W0.frozen? ⟨w.heap.size, 0, none⟩ = false := by rw [hW0]; simp
  have f1 : W0.frozen? ⟨w.heap.size, 1, none⟩ = false := by rw [hW0]; simp
  clear hT
  go_enter Tryd.func36, Tryd.ntmps36
  go_upto_region 1 with fail
  rw [← hW0]
  clear hW0
  go_wp2_with fail
  refine bodyPost_ret (v := .tuple #[.agg #[.int .i64 0, .string ⟨#[]⟩], .string ⟨#[]⟩, .bool false]) (by simp [results, Tryd.results36, go_sem, c0, c1]) rfl ⟨rfl, ?_⟩
  exact (b0.setCell (Nat.le_refl _) _).setCell (Nat.le_refl _) _
end Go.Proofs.YthlpklkdpggmkaaDoor
namespace Go.Proofs.YthlpklkdpggmkaaDoor
open Go.RowKit
set_option maxHeartbeats 2000000 in
set_option maxRecDepth 100000 in
theorem slice_str (s : ByteArray) (a b : Nat) : (s.extract a b).data.toList = (s.data.toList.drop a).take (b - a) := by
  rw [ByteArray.data_extract, Array.toList_extract, List.extract_eq_take_drop]
set_option maxHeartbeats 2000000 in
set_option maxRecDepth 100000 in
set_option linter.unusedSimpArgs false in
theorem fldRead_num (i : Nat) (hi : i < 10) (ht : isTx i = false) (s : ByteArray) (w : World) (hT : TabF w) (h : widF i ≤ s.size) :
    Calls Tryd.prog 36 #[.int .i64 (i : Int), .string s] w fun e w' => e = .returned (rdVF (some (wrap64 (val (s.data.toList.take (widF i)) : Int), ⟨#[]⟩, s.extract (widF i) s.size))) ∧ Below w.heap.size w w' := by
  unfold rdVF
  obtain ⟨W0, hW0⟩ : ∃ W0, W0 = w.alloc (.cells #[.int .i64 0, .string ⟨#[]⟩] 43) := ⟨_, rfl⟩
  have b0 : Below w.heap.size w W0 := by rw [hW0]; exact (Below.refl _ w).alloc (Nat.le_refl _) _
  have z := (hT.below b0).wid i hi
  have z1 := (hT.below b0).isT i hi
  rw [ht] at z1
  have hii : (i : Int) < 10 := by omega
  have hlt : ¬ (s.size : Int) < (widF i : Int) := by omega
  have c0 : W0.cell? ⟨w.heap.size, 0, none⟩ = some (.int .i64 0) := by rw [hW0]; simp
  have c1 : W0.cell? ⟨w.heap.size, 1, none⟩ = some (.string ⟨#[]⟩) := by rw [hW0]; simp
  have f0 : W0.frozen? ⟨w.heap.size, 0, none⟩ = false := by rw [hW0]; simp
  have f1 : W0.frozen? ⟨w.heap.size, 1, none⟩ = false := by rw [hW0]; simp
  have hwd := widF_le i
  have C := takeN_any (s.extract 0 (widF i)) (by simp; omega)
  rw [slice_str, List.drop_zero, Nat.sub_zero] at C
  have HC := hide C
  clear C hT
  generalize wrap64 (val (s.data.toList.take (widF i)) : Int) = V at *
  go_enter Tryd.func36, Tryd.ntmps36
  go_upto_region 1 with fail
  rw [← hW0]
  clear hW0
  go_wp2_with fail
  refine wp_region_held_drew (S := fun _ => True) (by kernel_rfl) trivial (fun hHeld => ?_)
  refine wpAnyH_take (i := 0) (v := (.string s)) rfl (by kernel_rfl) (by kernel_rfl) (by kernel_rfl) (fun _ _ _ h => h) (Or.inl ⟨by rfl, ?_⟩) (by assumption) ?_
  · intro w' hSw
    (try dsimp only at hSw)
    go_simp <;> first | exact i64_in (by omega) (by omega) | exact u32_in (by omega) (by omega) | exact u32_add _ _ | (rw [Int.tmod_eq_emod_of_nonneg (by omega)]; omega) | (rw [Int.tdiv_eq_ediv_of_nonneg (by omega)]; omega) | omega
  (try simp only [Act.put, List.setIfInBounds_toArray, List.set_cons_zero, List.set_cons_succ])
  refine wpAnyH_take (i := 1) (v := (.int .i64 (widF i : Int))) rfl (by kernel_rfl) (by kernel_rfl) (by kernel_rfl) (fun _ _ _ h => h) (Or.inl ⟨by rfl, ?_⟩) (by assumption) ?_
  · intro w' hSw
    (try dsimp only at hSw)
    go_simp <;> first | exact i64_in (by omega) (by omega) | exact u32_in (by omega) (by omega) | exact u32_add _ _ | (rw [Int.tmod_eq_emod_of_nonneg (by omega)]; omega) | (rw [Int.tdiv_eq_ediv_of_nonneg (by omega)]; omega) | omega
  (try simp only [Act.put, List.setIfInBounds_toArray, List.set_cons_zero, List.set_cons_succ])
  refine wpAnyH_take (i := 2) (v := (.string (s.extract 0 (widF i)))) rfl (by kernel_rfl) (by kernel_rfl) (by kernel_rfl) (fun _ _ _ h => h) (Or.inl ⟨by rfl, ?_⟩) (by assumption) ?_
  · intro w' hSw
    (try dsimp only at hSw)
    (go_simp; (repeat rw [if_pos (by first | omega | exact ⟨by omega, by omega⟩)]); (try rw [show ((widF i : Int)).toNat = widF i by omega]); (try rw [show ((s.size : Int)).toNat = s.size by omega]); (try rfl))
  (try simp only [Act.put, List.setIfInBounds_toArray, List.set_cons_zero, List.set_cons_succ])
  refine wpAnyH_take (i := 4) (v := (.string s)) rfl (by kernel_rfl) (by kernel_rfl) (by kernel_rfl) (fun _ _ _ h => h) (Or.inl ⟨by rfl, ?_⟩) (by assumption) ?_
  · intro w' hSw
    (try dsimp only at hSw)
    go_simp <;> first | exact i64_in (by omega) (by omega) | exact u32_in (by omega) (by omega) | exact u32_add _ _ | (rw [Int.tmod_eq_emod_of_nonneg (by omega)]; omega) | (rw [Int.tdiv_eq_ediv_of_nonneg (by omega)]; omega) | omega
  (try simp only [Act.put, List.setIfInBounds_toArray, List.set_cons_zero, List.set_cons_succ])
  refine wpAnyH_take (i := 5) (v := (.int .i64 (widF i : Int))) rfl (by kernel_rfl) (by kernel_rfl) (by kernel_rfl) (fun _ _ _ h => h) (Or.inl ⟨by rfl, ?_⟩) (by assumption) ?_
  · intro w' hSw
    (try dsimp only at hSw)
    go_simp <;> first | exact i64_in (by omega) (by omega) | exact u32_in (by omega) (by omega) | exact u32_add _ _ | (rw [Int.tmod_eq_emod_of_nonneg (by omega)]; omega) | (rw [Int.tdiv_eq_ediv_of_nonneg (by omega)]; omega) | omega
  (try simp only [Act.put, List.setIfInBounds_toArray, List.set_cons_zero, List.set_cons_succ])
  refine wpAnyH_take (i := 6) (v := (.string (s.extract (widF i) s.size))) rfl (by kernel_rfl) (by kernel_rfl) (by kernel_rfl) (fun _ _ _ h => h) (Or.inl ⟨by rfl, ?_⟩) (by assumption) ?_
  · intro w' hSw
    (try dsimp only at hSw)
    (go_simp; (repeat rw [if_pos (by first | omega | exact ⟨by omega, by omega⟩)]); (try rw [show ((widF i : Int)).toNat = widF i by omega]); (try rw [show ((s.size : Int)).toNat = s.size by omega]); (try rfl))
  (try simp only [Act.put, List.setIfInBounds_toArray, List.set_cons_zero, List.set_cons_succ])
  refine wpAnyH_ready (rs := [3]) (by kernel_rfl) (by simp) ?_
  refine AllReadyH.cons rfl (fun K hK => ?_) AllReadyH.nil
  go_simp
  refine Calls.mono (HC.out _) ?_
  rintro x wx ⟨rfl, rfl⟩
  refine hK.out _ _ (trivial) (fun hHeld => ?_)
  clear hK
  (try simp only [Act.put, List.setIfInBounds_toArray, List.set_cons_zero, List.set_cons_succ])
  refine wpAnyH_ready (rs := [7]) (by kernel_rfl) (by simp) ?_
  refine AllReadyH.cons rfl (fun K hK => ?_) AllReadyH.nil
  go_simp
  refine hK.out _ _ (trivial) (fun hHeld => ?_)
  clear hK
  (try simp only [Act.put, List.setIfInBounds_toArray, List.set_cons_zero, List.set_cons_succ])
  refine wpAnyH_ready (rs := [8]) (by kernel_rfl) (by simp) ?_
  refine AllReadyH.cons rfl (fun K hK => ?_) AllReadyH.nil
  go_simp
  refine hK.out _ _ (trivial) (fun hHeld => ?_)
  clear hK
  (try simp only [Act.put, List.setIfInBounds_toArray, List.set_cons_zero, List.set_cons_succ])
  refine wpAnyH_done (by kernel_rfl) ?_ _
  clear hHeld
  go_wp2_with fail
  refine bodyPost_ret (v := .tuple #[.agg #[.int .i64 V, .string ⟨#[]⟩], .string (s.extract (widF i) s.size), .bool true]) (by simp [results, Tryd.results36, go_sem, c0, c1]) rfl ⟨rfl, ?_⟩
  exact ((b0.setCell (Nat.le_refl _) _).setCell (Nat.le_refl _) _).drew
end Go.Proofs.YthlpklkdpggmkaaDoor
namespace Go.Proofs.YthlpklkdpggmkaaDoor
open Go.RowKit
theorem wrap64_inF {x : Int} (h0 : 0 ≤ x) (h1 : x < 9223372036854775808) : wrap64 x = x := by
  unfold wrap64
  omega
theorem widF_tx : ∀ i, i < 10 → isTx i = true → widF i ≤ 4 := by decide
set_option maxHeartbeats 2000000 in
set_option maxRecDepth 100000 in
set_option linter.unusedSimpArgs false in
theorem fldRead_few (i : Nat) (hi : i < 10) (ht : isTx i = true) (s : ByteArray) (w : World) (hT : TabF w) (h : widF i ≤ s.size) (h2 : s.size < widF i + val (s.data.toList.take (widF i))) :
    Calls Tryd.prog 36 #[.int .i64 (i : Int), .string s] w fun e w' => e = .returned (rdVF none) ∧ Below w.heap.size w w' := by
  unfold rdVF
  obtain ⟨W0, hW0⟩ : ∃ W0, W0 = w.alloc (.cells #[.int .i64 0, .string ⟨#[]⟩] 43) := ⟨_, rfl⟩
  have b0 : Below w.heap.size w W0 := by rw [hW0]; exact (Below.refl _ w).alloc (Nat.le_refl _) _
  have z := (hT.below b0).wid i hi
  have z1 := (hT.below b0).isT i hi
  rw [ht] at z1
  have hV0 : val (s.data.toList.take (widF i)) < 4294967296 := by
    refine Nat.lt_of_lt_of_le (val_lt _) ?_
    refine Nat.le_trans (Nat.pow_le_pow_right (by omega) (show _ ≤ 4 from ?_)) (by decide)
    rw [List.length_take]
    exact Nat.le_trans (Nat.min_le_left _ _) (widF_tx i hi ht)
  have hii : (i : Int) < 10 := by omega
  have hlt : ¬ (s.size : Int) < (widF i : Int) := by omega
  have c0 : W0.cell? ⟨w.heap.size, 0, none⟩ = some (.int .i64 0) := by rw [hW0]; simp
  have c1 : W0.cell? ⟨w.heap.size, 1, none⟩ = some (.string ⟨#[]⟩) := by rw [hW0]; simp
  have f0 : W0.frozen? ⟨w.heap.size, 0, none⟩ = false := by rw [hW0]; simp
  have f1 : W0.frozen? ⟨w.heap.size, 1, none⟩ = false := by rw [hW0]; simp
  have hwd := widF_le i
  have C := takeN_any (s.extract 0 (widF i)) (by simp; omega)
  rw [slice_str, List.drop_zero, Nat.sub_zero] at C
  rw [wrap64_inF (by omega) (by omega)] at C
  have HC := hide C
  clear C hT
  generalize val (s.data.toList.take (widF i)) = V at *
  have hz : (s.extract (widF i) s.size).size = s.size - widF i := by simp
  have hlt2 : ((s.size - widF i : Nat) : Int) < (V : Int) := by omega
  go_enter Tryd.func36, Tryd.ntmps36
  go_upto_region 1 with fail
  rw [← hW0]
  clear hW0
  go_wp2_with fail
  refine wp_region_held_drew (S := fun _ => True) (by kernel_rfl) trivial (fun hHeld => ?_)
  refine wpAnyH_take (i := 0) (v := (.string s)) rfl (by kernel_rfl) (by kernel_rfl) (by kernel_rfl) (fun _ _ _ h => h) (Or.inl ⟨by rfl, ?_⟩) (by assumption) ?_
  · intro w' hSw
    (try dsimp only at hSw)
    go_simp <;> first | exact i64_in (by omega) (by omega) | exact u32_in (by omega) (by omega) | exact u32_add _ _ | (rw [Int.tmod_eq_emod_of_nonneg (by omega)]; omega) | (rw [Int.tdiv_eq_ediv_of_nonneg (by omega)]; omega) | omega
  (try simp only [Act.put, List.setIfInBounds_toArray, List.set_cons_zero, List.set_cons_succ])
  refine wpAnyH_take (i := 1) (v := (.int .i64 (widF i : Int))) rfl (by kernel_rfl) (by kernel_rfl) (by kernel_rfl) (fun _ _ _ h => h) (Or.inl ⟨by rfl, ?_⟩) (by assumption) ?_
  · intro w' hSw
    (try dsimp only at hSw)
    go_simp <;> first | exact i64_in (by omega) (by omega) | exact u32_in (by omega) (by omega) | exact u32_add _ _ | (rw [Int.tmod_eq_emod_of_nonneg (by omega)]; omega) | (rw [Int.tdiv_eq_ediv_of_nonneg (by omega)]; omega) | omega
  (try simp only [Act.put, List.setIfInBounds_toArray, List.set_cons_zero, List.set_cons_succ])
  refine wpAnyH_take (i := 2) (v := (.string (s.extract 0 (widF i)))) rfl (by kernel_rfl) (by kernel_rfl) (by kernel_rfl) (fun _ _ _ h => h) (Or.inl ⟨by rfl, ?_⟩) (by assumption) ?_
  · intro w' hSw
    (try dsimp only at hSw)
    (go_simp; (repeat rw [if_pos (by first | omega | exact ⟨by omega, by omega⟩)]); (try rw [show ((widF i : Int)).toNat = widF i by omega]); (try rw [show ((s.size : Int)).toNat = s.size by omega]); (try rfl))
  (try simp only [Act.put, List.setIfInBounds_toArray, List.set_cons_zero, List.set_cons_succ])
  refine wpAnyH_take (i := 4) (v := (.string s)) rfl (by kernel_rfl) (by kernel_rfl) (by kernel_rfl) (fun _ _ _ h => h) (Or.inl ⟨by rfl, ?_⟩) (by assumption) ?_
  · intro w' hSw
    (try dsimp only at hSw)
    go_simp <;> first | exact i64_in (by omega) (by omega) | exact u32_in (by omega) (by omega) | exact u32_add _ _ | (rw [Int.tmod_eq_emod_of_nonneg (by omega)]; omega) | (rw [Int.tdiv_eq_ediv_of_nonneg (by omega)]; omega) | omega
  (try simp only [Act.put, List.setIfInBounds_toArray, List.set_cons_zero, List.set_cons_succ])
  refine wpAnyH_take (i := 5) (v := (.int .i64 (widF i : Int))) rfl (by kernel_rfl) (by kernel_rfl) (by kernel_rfl) (fun _ _ _ h => h) (Or.inl ⟨by rfl, ?_⟩) (by assumption) ?_
  · intro w' hSw
    (try dsimp only at hSw)
    go_simp <;> first | exact i64_in (by omega) (by omega) | exact u32_in (by omega) (by omega) | exact u32_add _ _ | (rw [Int.tmod_eq_emod_of_nonneg (by omega)]; omega) | (rw [Int.tdiv_eq_ediv_of_nonneg (by omega)]; omega) | omega
  (try simp only [Act.put, List.setIfInBounds_toArray, List.set_cons_zero, List.set_cons_succ])
  refine wpAnyH_take (i := 6) (v := (.string (s.extract (widF i) s.size))) rfl (by kernel_rfl) (by kernel_rfl) (by kernel_rfl) (fun _ _ _ h => h) (Or.inl ⟨by rfl, ?_⟩) (by assumption) ?_
  · intro w' hSw
    (try dsimp only at hSw)
    (go_simp; (repeat rw [if_pos (by first | omega | exact ⟨by omega, by omega⟩)]); (try rw [show ((widF i : Int)).toNat = widF i by omega]); (try rw [show ((s.size : Int)).toNat = s.size by omega]); (try rfl))
  (try simp only [Act.put, List.setIfInBounds_toArray, List.set_cons_zero, List.set_cons_succ])
  refine wpAnyH_ready (rs := [3]) (by kernel_rfl) (by simp) ?_
  refine AllReadyH.cons rfl (fun K hK => ?_) AllReadyH.nil
  go_simp
  refine Calls.mono (HC.out _) ?_
  rintro x wx ⟨rfl, rfl⟩
  refine hK.out _ _ (trivial) (fun hHeld => ?_)
  clear hK
  (try simp only [Act.put, List.setIfInBounds_toArray, List.set_cons_zero, List.set_cons_succ])
  refine wpAnyH_ready (rs := [7]) (by kernel_rfl) (by simp) ?_
  refine AllReadyH.cons rfl (fun K hK => ?_) AllReadyH.nil
  go_simp
  refine hK.out _ _ (trivial) (fun hHeld => ?_)
  clear hK
  (try simp only [Act.put, List.setIfInBounds_toArray, List.set_cons_zero, List.set_cons_succ])
  refine wpAnyH_ready (rs := [8]) (by kernel_rfl) (by simp) ?_
  refine AllReadyH.cons rfl (fun K hK => ?_) AllReadyH.nil
  go_simp
  refine hK.out _ _ (trivial) (fun hHeld => ?_)
  clear hK
  (try simp only [Act.put, List.setIfInBounds_toArray, List.set_cons_zero, List.set_cons_succ])
  refine wpAnyH_done (by kernel_rfl) ?_ _
  clear hHeld
  go_wp2_with fail
  refine bodyPost_ret (v := .tuple #[.agg #[.int .i64 0, .string ⟨#[]⟩], .string ⟨#[]⟩, .bool false]) (by simp [results, Tryd.results36, go_sem, c0, c1]) rfl ⟨rfl, ?_⟩
  exact ((b0.setCell (Nat.le_refl _) _).setCell (Nat.le_refl _) _).drew
end Go.Proofs.YthlpklkdpggmkaaDoor
namespace Go.Proofs.YthlpklkdpggmkaaDoor
open Go.RowKit
set_option maxHeartbeats 2000000 in
set_option maxRecDepth 100000 in
set_option linter.unusedSimpArgs false in
theorem fldRead_txt (i : Nat) (hi : i < 10) (ht : isTx i = true) (s : ByteArray) (w : World) (hT : TabF w) (h : widF i ≤ s.size) (h2 : widF i + val (s.data.toList.take (widF i)) ≤ s.size) :
    Calls Tryd.prog 36 #[.int .i64 (i : Int), .string s] w fun e w' => e = .returned (rdVF (some (0, s.extract (widF i) (widF i + val (s.data.toList.take (widF i))), s.extract (widF i + val (s.data.toList.take (widF i))) s.size))) ∧ Below w.heap.size w w' := by
  unfold rdVF
  obtain ⟨W0, hW0⟩ : ∃ W0, W0 = w.alloc (.cells #[.int .i64 0, .string ⟨#[]⟩] 43) := ⟨_, rfl⟩
  have b0 : Below w.heap.size w W0 := by rw [hW0]; exact (Below.refl _ w).alloc (Nat.le_refl _) _
  have z := (hT.below b0).wid i hi
  have z1 := (hT.below b0).isT i hi
  rw [ht] at z1
  have hV0 : val (s.data.toList.take (widF i)) < 4294967296 := by
    refine Nat.lt_of_lt_of_le (val_lt _) ?_
    refine Nat.le_trans (Nat.pow_le_pow_right (by omega) (show _ ≤ 4 from ?_)) (by decide)
    rw [List.length_take]
    exact Nat.le_trans (Nat.min_le_left _ _) (widF_tx i hi ht)
  have hii : (i : Int) < 10 := by omega
  have hlt : ¬ (s.size : Int) < (widF i : Int) := by omega
  have c0 : W0.cell? ⟨w.heap.size, 0, none⟩ = some (.int .i64 0) := by rw [hW0]; simp
  have c1 : W0.cell? ⟨w.heap.size, 1, none⟩ = some (.string ⟨#[]⟩) := by rw [hW0]; simp
  have f0 : W0.frozen? ⟨w.heap.size, 0, none⟩ = false := by rw [hW0]; simp
  have f1 : W0.frozen? ⟨w.heap.size, 1, none⟩ = false := by rw [hW0]; simp
  have hwd := widF_le i
  have C := takeN_any (s.extract 0 (widF i)) (by simp; omega)
  rw [slice_str, List.drop_zero, Nat.sub_zero] at C
  rw [wrap64_inF (by omega) (by omega)] at C
  have HC := hide C
  clear C hT
  generalize val (s.data.toList.take (widF i)) = V at *
  have hz : (s.extract (widF i) s.size).size = s.size - widF i := by simp
  have e1 : s.extract (widF i) (widF i + V) = (s.extract (widF i) s.size).extract 0 V := by rw [ByteArray.extract_extract, Nat.add_zero, Nat.min_eq_left h2]
  have e2 : s.extract (widF i + V) s.size = (s.extract (widF i) s.size).extract V (s.extract (widF i) s.size).size := by
    rw [ByteArray.extract_extract, hz, Nat.min_eq_left (by omega)]; congr 1; omega
  rw [e1, e2]
  clear e1 e2
  have hR : V ≤ (s.extract (widF i) s.size).size := by rw [hz]; omega
  clear hz
  obtain ⟨R, hR0⟩ : ∃ R, R = s.extract (widF i) s.size := ⟨_, rfl⟩
  rw [← hR0] at hR ⊢
  have hlt2 : ¬ (R.size : Int) < (V : Int) := by omega
  go_enter Tryd.func36, Tryd.ntmps36
  go_upto_region 1 with fail
  rw [← hW0]
  clear hW0
  go_wp2_with fail
  refine wp_region_held_drew (S := fun _ => True) (by kernel_rfl) trivial (fun hHeld => ?_)
  refine wpAnyH_take (i := 0) (v := (.string s)) rfl (by kernel_rfl) (by kernel_rfl) (by kernel_rfl) (fun _ _ _ h => h) (Or.inl ⟨by rfl, ?_⟩) (by assumption) ?_
  · intro w' hSw
    (try dsimp only at hSw)
    go_simp <;> first | exact i64_in (by omega) (by omega) | exact u32_in (by omega) (by omega) | exact u32_add _ _ | (rw [Int.tmod_eq_emod_of_nonneg (by omega)]; omega) | (rw [Int.tdiv_eq_ediv_of_nonneg (by omega)]; omega) | omega
  (try simp only [Act.put, List.setIfInBounds_toArray, List.set_cons_zero, List.set_cons_succ])
  refine wpAnyH_take (i := 1) (v := (.int .i64 (widF i : Int))) rfl (by kernel_rfl) (by kernel_rfl) (by kernel_rfl) (fun _ _ _ h => h) (Or.inl ⟨by rfl, ?_⟩) (by assumption) ?_
  · intro w' hSw
    (try dsimp only at hSw)
    go_simp <;> first | exact i64_in (by omega) (by omega) | exact u32_in (by omega) (by omega) | exact u32_add _ _ | (rw [Int.tmod_eq_emod_of_nonneg (by omega)]; omega) | (rw [Int.tdiv_eq_ediv_of_nonneg (by omega)]; omega) | omega
  (try simp only [Act.put, List.setIfInBounds_toArray, List.set_cons_zero, List.set_cons_succ])
  refine wpAnyH_take (i := 2) (v := (.string (s.extract 0 (widF i)))) rfl (by kernel_rfl) (by kernel_rfl) (by kernel_rfl) (fun _ _ _ h => h) (Or.inl ⟨by rfl, ?_⟩) (by assumption) ?_
  · intro w' hSw
    (try dsimp only at hSw)
    (go_simp; (repeat rw [if_pos (by first | omega | exact ⟨by omega, by omega⟩)]); (try rw [show ((widF i : Int)).toNat = widF i by omega]); (try rw [show ((s.size : Int)).toNat = s.size by omega]); (try rfl))
  (try simp only [Act.put, List.setIfInBounds_toArray, List.set_cons_zero, List.set_cons_succ])
  refine wpAnyH_take (i := 4) (v := (.string s)) rfl (by kernel_rfl) (by kernel_rfl) (by kernel_rfl) (fun _ _ _ h => h) (Or.inl ⟨by rfl, ?_⟩) (by assumption) ?_
  · intro w' hSw
    (try dsimp only at hSw)
    go_simp <;> first | exact i64_in (by omega) (by omega) | exact u32_in (by omega) (by omega) | exact u32_add _ _ | (rw [Int.tmod_eq_emod_of_nonneg (by omega)]; omega) | (rw [Int.tdiv_eq_ediv_of_nonneg (by omega)]; omega) | omega
  (try simp only [Act.put, List.setIfInBounds_toArray, List.set_cons_zero, List.set_cons_succ])
  refine wpAnyH_take (i := 5) (v := (.int .i64 (widF i : Int))) rfl (by kernel_rfl) (by kernel_rfl) (by kernel_rfl) (fun _ _ _ h => h) (Or.inl ⟨by rfl, ?_⟩) (by assumption) ?_
  · intro w' hSw
    (try dsimp only at hSw)
    go_simp <;> first | exact i64_in (by omega) (by omega) | exact u32_in (by omega) (by omega) | exact u32_add _ _ | (rw [Int.tmod_eq_emod_of_nonneg (by omega)]; omega) | (rw [Int.tdiv_eq_ediv_of_nonneg (by omega)]; omega) | omega
  (try simp only [Act.put, List.setIfInBounds_toArray, List.set_cons_zero, List.set_cons_succ])
  refine wpAnyH_take (i := 6) (v := (.string R)) rfl (by kernel_rfl) (by kernel_rfl) (by kernel_rfl) (fun _ _ _ h => h) (Or.inl ⟨by rfl, ?_⟩) (by assumption) ?_
  · intro w' hSw
    (try dsimp only at hSw)
    (go_simp; (repeat rw [if_pos (by first | omega | exact ⟨by omega, by omega⟩)]); (try rw [show ((widF i : Int)).toNat = widF i by omega]); (try rw [show ((s.size : Int)).toNat = s.size by omega]); (try rw [hR0]))
  (try simp only [Act.put, List.setIfInBounds_toArray, List.set_cons_zero, List.set_cons_succ])
  refine wpAnyH_ready (rs := [3]) (by kernel_rfl) (by simp) ?_
  refine AllReadyH.cons rfl (fun K hK => ?_) AllReadyH.nil
  go_simp
  refine Calls.mono (HC.out _) ?_
  rintro x wx ⟨rfl, rfl⟩
  refine hK.out _ _ (trivial) (fun hHeld => ?_)
  clear hK
  (try simp only [Act.put, List.setIfInBounds_toArray, List.set_cons_zero, List.set_cons_succ])
  refine wpAnyH_ready (rs := [7]) (by kernel_rfl) (by simp) ?_
  refine AllReadyH.cons rfl (fun K hK => ?_) AllReadyH.nil
  go_simp
  refine hK.out _ _ (trivial) (fun hHeld => ?_)
  clear hK
  (try simp only [Act.put, List.setIfInBounds_toArray, List.set_cons_zero, List.set_cons_succ])
  refine wpAnyH_ready (rs := [8]) (by kernel_rfl) (by simp) ?_
  refine AllReadyH.cons rfl (fun K hK => ?_) AllReadyH.nil
  go_simp
  refine hK.out _ _ (trivial) (fun hHeld => ?_)
  clear hK
  (try simp only [Act.put, List.setIfInBounds_toArray, List.set_cons_zero, List.set_cons_succ])
  refine wpAnyH_done (by kernel_rfl) ?_ _
  clear hHeld
  go_wp2_with fail
  have k0 : W0.drew.cell? ⟨w.heap.size, 0, none⟩ = some (.int .i64 0) := c0
  have k1 : W0.drew.cell? ⟨w.heap.size, 1, none⟩ = some (.string ⟨#[]⟩) := c1
  have k2 : W0.drew.frozen? ⟨w.heap.size, 0, none⟩ = false := f0
  have k3 : W0.drew.frozen? ⟨w.heap.size, 1, none⟩ = false := f1
  refine wp_region_held_drew (S := fun _ => True) (by kernel_rfl) trivial (fun hHeld => ?_)
  refine wpAnyH_take (i := 0) (v := (.string R)) rfl (by kernel_rfl) (by kernel_rfl) (by kernel_rfl) (fun _ _ _ h => h) (Or.inl ⟨by rfl, ?_⟩) (by assumption) ?_
  · intro w' hSw
    (try dsimp only at hSw)
    go_simp <;> first | exact i64_in (by omega) (by omega) | exact u32_in (by omega) (by omega) | exact u32_add _ _ | (rw [Int.tmod_eq_emod_of_nonneg (by omega)]; omega) | (rw [Int.tdiv_eq_ediv_of_nonneg (by omega)]; omega) | omega
  (try simp only [Act.put, List.setIfInBounds_toArray, List.set_cons_zero, List.set_cons_succ])
  refine wpAnyH_take (i := 1) (v := (.int .i64 (V : Int))) rfl (by kernel_rfl) (by kernel_rfl) (by kernel_rfl) (fun _ _ _ h => h) (Or.inl ⟨by rfl, ?_⟩) (by assumption) ?_
  · intro w' hSw
    (try dsimp only at hSw)
    go_simp <;> first | exact i64_in (by omega) (by omega) | exact u32_in (by omega) (by omega) | exact u32_add _ _ | (rw [Int.tmod_eq_emod_of_nonneg (by omega)]; omega) | (rw [Int.tdiv_eq_ediv_of_nonneg (by omega)]; omega) | omega
  (try simp only [Act.put, List.setIfInBounds_toArray, List.set_cons_zero, List.set_cons_succ])
  refine wpAnyH_take (i := 2) (v := (.string (R.extract 0 V))) rfl (by kernel_rfl) (by kernel_rfl) (by kernel_rfl) (fun _ _ _ h => h) (Or.inl ⟨by rfl, ?_⟩) (by assumption) ?_
  · intro w' hSw
    (try dsimp only at hSw)
    (go_simp; (repeat rw [if_pos (by first | omega | exact ⟨by omega, by omega⟩)]); (try rw [show ((V : Int)).toNat = V by omega]); (try rw [show ((R.size : Int)).toNat = R.size by omega]); (try rw [Int.toNat_natCast]); (try rfl))
  (try simp only [Act.put, List.setIfInBounds_toArray, List.set_cons_zero, List.set_cons_succ])
  refine wpAnyH_take (i := 3) (v := (.agg #[.int .i64 0, .string (R.extract 0 V)])) rfl (by kernel_rfl) (by kernel_rfl) (by kernel_rfl) (fun _ _ _ h => h) (Or.inl ⟨by rfl, ?_⟩) (by assumption) ?_
  · intro w' hSw
    (try dsimp only at hSw)
    go_simp <;> first | exact i64_in (by omega) (by omega) | exact u32_in (by omega) (by omega) | exact u32_add _ _ | (rw [Int.tmod_eq_emod_of_nonneg (by omega)]; omega) | (rw [Int.tdiv_eq_ediv_of_nonneg (by omega)]; omega) | omega
  (try simp only [Act.put, List.setIfInBounds_toArray, List.set_cons_zero, List.set_cons_succ])
  refine wpAnyH_take (i := 4) (v := (.string R)) rfl (by kernel_rfl) (by kernel_rfl) (by kernel_rfl) (fun _ _ _ h => h) (Or.inl ⟨by rfl, ?_⟩) (by assumption) ?_
  · intro w' hSw
    (try dsimp only at hSw)
    go_simp <;> first | exact i64_in (by omega) (by omega) | exact u32_in (by omega) (by omega) | exact u32_add _ _ | (rw [Int.tmod_eq_emod_of_nonneg (by omega)]; omega) | (rw [Int.tdiv_eq_ediv_of_nonneg (by omega)]; omega) | omega
  (try simp only [Act.put, List.setIfInBounds_toArray, List.set_cons_zero, List.set_cons_succ])
  refine wpAnyH_take (i := 5) (v := (.int .i64 (V : Int))) rfl (by kernel_rfl) (by kernel_rfl) (by kernel_rfl) (fun _ _ _ h => h) (Or.inl ⟨by rfl, ?_⟩) (by assumption) ?_
  · intro w' hSw
    (try dsimp only at hSw)
    go_simp <;> first | exact i64_in (by omega) (by omega) | exact u32_in (by omega) (by omega) | exact u32_add _ _ | (rw [Int.tmod_eq_emod_of_nonneg (by omega)]; omega) | (rw [Int.tdiv_eq_ediv_of_nonneg (by omega)]; omega) | omega
  (try simp only [Act.put, List.setIfInBounds_toArray, List.set_cons_zero, List.set_cons_succ])
  refine wpAnyH_take (i := 6) (v := (.string (R.extract V R.size))) rfl (by kernel_rfl) (by kernel_rfl) (by kernel_rfl) (fun _ _ _ h => h) (Or.inl ⟨by rfl, ?_⟩) (by assumption) ?_
  · intro w' hSw
    (try dsimp only at hSw)
    (go_simp; (repeat rw [if_pos (by first | omega | exact ⟨by omega, by omega⟩)]); (try rw [show ((V : Int)).toNat = V by omega]); (try rw [show ((R.size : Int)).toNat = R.size by omega]); (try rw [Int.toNat_natCast]); (try rfl))
  (try simp only [Act.put, List.setIfInBounds_toArray, List.set_cons_zero, List.set_cons_succ])
  refine wpAnyH_ready (rs := [7]) (by kernel_rfl) (by simp) ?_
  refine AllReadyH.cons rfl (fun K hK => ?_) AllReadyH.nil
  go_simp
  refine hK.out _ _ (trivial) (fun hHeld => ?_)
  clear hK
  (try simp only [Act.put, List.setIfInBounds_toArray, List.set_cons_zero, List.set_cons_succ])
  refine wpAnyH_ready (rs := [8]) (by kernel_rfl) (by simp) ?_
  refine AllReadyH.cons rfl (fun K hK => ?_) AllReadyH.nil
  go_simp
  refine hK.out _ _ (trivial) (fun hHeld => ?_)
  clear hK
  (try simp only [Act.put, List.setIfInBounds_toArray, List.set_cons_zero, List.set_cons_succ])
  refine wpAnyH_ready (rs := [9]) (by kernel_rfl) (by simp) ?_
  refine AllReadyH.cons rfl (fun K hK => ?_) AllReadyH.nil
  go_simp
  refine hK.out _ _ (trivial) (fun hHeld => ?_)
  clear hK
  (try simp only [Act.put, List.setIfInBounds_toArray, List.set_cons_zero, List.set_cons_succ])
  refine wpAnyH_done (by kernel_rfl) ?_ _
  clear hHeld
  go_wp2_with fail
  refine bodyPost_ret (v := .tuple #[.agg #[.int .i64 0, .string ((s.extract (widF i) s.size).extract 0 V)], .string ((s.extract (widF i) s.size).extract V (s.size - widF i)), .bool true]) (by simp [results, Tryd.results36, go_sem, c0, c1]) rfl ⟨?_, ?_⟩
  · rw [hR0, show (s.extract (widF i) s.size).size = s.size - widF i by simp]
  · exact ((b0.setCell (Nat.le_refl _) _).setCell (Nat.le_refl _) _).drew.drew
/-- read -/
theorem fldRead_any (i : Nat) (hi : i < 10) (s : ByteArray) (w : World) (hT : TabF w) :
    Calls Tryd.prog 36 #[.int .i64 (i : Int), .string s] w fun e w' => e = .returned (rdVF (rdF i s)) ∧ Below w.heap.size w w' := by
  unfold rdF
  split
  · rename_i h; exact fldRead_short i hi s w hT h
  · rename_i h
    split
    · rename_i ht; exact fldRead_num i hi ht s w hT (by omega)
    · rename_i ht
      rw [Bool.not_eq_false] at ht
      split
      · rename_i h2; exact fldRead_few i hi ht s w hT (by omega) h2
      · rename_i h2; exact fldRead_txt i hi ht s w hT (by omega) (by omega)
end Go.Proofs.YthlpklkdpggmkaaDoor
namespace Go.Proofs.YthlpklkdpggmkaaDoor
open Go.RowKit
/-- how many bytes the body has, as the beginning of a frame says -/
def bszF (s : ByteArray) : Nat := val ((s.data.toList.drop 16).take 4)
theorem bszF_lt (s : ByteArray) : bszF s < 4294967296 := by
  unfold bszF
  refine Nat.lt_of_lt_of_le (val_lt _) ?_
  refine Nat.le_trans (Nat.pow_le_pow_right (by omega) (show _ ≤ 4 from ?_)) (by decide)
  rw [List.length_take]
  exact Nat.min_le_left _ _
set_option maxHeartbeats 2000000 in
set_option maxRecDepth 100000 in
/-- bodySize -/
theorem bodySize_any (s : ByteArray) (h : 20 ≤ s.size) (w : World) :
    Calls Tryd.prog 35 #[.string s] w fun e w' => e = .returned (.int .i64 (bszF s : Int)) ∧ w = w' := by
  have C := takeN_any (s.extract 16 20) (by simp; omega) w
  have hb := bszF_lt s
  rw [slice_str, show val ((s.data.toList.drop 16).take (20 - 16)) = bszF s from rfl, wrap64_inF (by omega) (by omega)] at C
  have HC := hide C
  clear C
  generalize bszF s = B at *
  have hlt : ¬ (s.size : Int) < 20 := by omega
  go_enter Tryd.func35, Tryd.ntmps35
  go_wp2_with fail
  refine Calls.mono HC.out ?_
  rintro e wx ⟨rfl, rfl⟩
  go_wp2_with fail
  go_ret
  exact ⟨rfl, rfl⟩
end Go.Proofs.YthlpklkdpggmkaaDoor
