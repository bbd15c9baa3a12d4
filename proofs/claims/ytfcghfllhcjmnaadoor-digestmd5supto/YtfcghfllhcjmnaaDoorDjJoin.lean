import Derived.Test.YtfcghfllhcjmnaaDoorDcCrc
import Derived.Laws.OwnMore
import Derived.Lib.Split
import Derived.Deep.QuietTactic
import Derived.BigQuiet
import Derived.Deep.RegionHeld3
namespace Go.Proofs.YtfcghfllhcjmnaaDoor
open Go.RowKit
theorem info5j : (Tryd.prog.info? 5).map (fun i => (i.zero, i.size, i.bytes)) = some (some (.int .u8 0), 1, 1) := by kernel_rfl
theorem cat_take_len (xs : List ByteArray) (k : Nat) : (cat (xs.take k)).length ≤ (cat xs).length := by
  have : cat xs = cat (xs.take k) ++ cat (xs.drop k) := by
    unfold cat
    rw [← List.flatten_append, ← List.map_append, List.take_append_drop]
  rw [this, List.length_append]
  omega
theorem one_cell' {x : Value} (hx : x.oneCell' = true) : ∀ u ∈ [x], u.oneCell' = true := by
  intro u hu; simp at hu; subst hu; exact hx
set_option maxHeartbeats 1000000 in
set_option maxRecDepth 100000 in
/-- the document's Join -/
theorem rjoin_any (ao : Option Addr) (b off cap : Nat) (xs : List ByteArray) (w : World) (hao : 0 < xs.length → ao = some ⟨b, off, none⟩) (hb : 0 < xs.length → b < w.heap.size) (hl : Lies b off w xs) (hlen : xs.length ≤ 1099511627776) (hs : (cat xs).length ≤ 1099511627776) :
    Calls Tryd.prog 24 #[.slice ao xs.length cap] w fun e w' => e = .returned (.string (strOf (cat xs))) ∧ Below w.heap.size w w' := by
  obtain ⟨i0, hi, hz0, hz1, hz2⟩ := info_parts info5j
  have HL := hide hl
  clear hl
  go_enter Tryd.func24, Tryd.ntmps24
  go_wp2
  go_loopw [3, 4] (fun v i wr => ∃ k : Nat, k ≤ xs.length ∧ i = .int .i64 k ∧ wr.ownsRow w.heap.size 5 1 v (cat (xs.take k)).length ((cat (xs.take k)).map ub) ∧ Below w.heap.size w wr) (fun _ i _ => xs.length - (intOf i).toNat)
  case atStart => exact ⟨0, Nat.zero_le _, rfl, World.ownsRow_nil _ _ _ _, Below.refl _ _⟩
  case round =>
    obtain ⟨k, hk, rfl, hown, hnx⟩ := hrel
    by_cases hlt : k < xs.length
    · obtain rfl := hao (by omega)
      have hb' := hb (by omega)
      have hc := HL.out k _ (List.getElem?_eq_getElem hlt)
      have hS := cat_snoc xs k hlt
      have hle := cat_take_len xs (k + 1)
      generalize xs[k] = X at *
      have hXl : (cat (xs.take k)).length + X.size ≤ 1099511627776 := by rw [hS, List.length_append, size_data] at hle; omega
      have HS := hide hS
      have HC := hide hc
      generalize cat (xs.take k) = L at *
      clear hS hc hle
      go_wp2_with fail
      go_loopw [3, 5] (fun v j wq => ∃ r : Nat, r ≤ X.size ∧ j = .int .i64 r ∧ wq.ownsRow w.heap.size 5 1 v (L.length + r) ((L ++ X.data.toList.take r).map ub) ∧ Below w.heap.size w wq) (fun _ j _ => X.size - (intOf j).toNat)
      case atStart => exact ⟨0, Nat.zero_le _, rfl, by simpa using hown, hnx⟩
      case round =>
        clear hown hnx
        obtain ⟨r, hr, rfl, hown, hnx⟩ := hrel
        have hsize := hnx.size
        have hc := (hnx.cell (p := ⟨b, off + k, none⟩) hb').trans HC.out
        by_cases hrl : r < X.size
        · have hx : ∀ w', (Instr.index 9 (.string X) (.int .i64 (r : Int))).run Tryd.prog w' = .ok (.int .u8 (X[r].toNat : Int)) w' := fun w' => ix_str w' X r hrl
          have HT : Hid ((L ++ X.data.toList.take (r + 1)).map ub = (L ++ X.data.toList.take r).map ub ++ [.int .u8 (X[r].toNat : Int)]) := by
            show _ = _
            rw [List.take_succ_eq_append_getElem (by rw [size_data]; exact hrl), ← List.append_assoc, List.map_append]
            rfl
          generalize X[r].toNat = XV at *
          go_wp2_with (at_builtin; refine wpList_append_own _ rfl _ _ 47 rfl w.heap.size 5 i0 (.int .u8 0) 1 1 Tryd.underlying47 hi hz0 hz1 hz2 rfl (by decide) _ _ _ rfl (hown.alloc _) ⟨wr.heap.size, 0, none⟩ 1 1 [.int .u8 (XV : Int)] rfl rfl (cell_one_new _ _ _) (one_cell' rfl) (by unfold maxLen; omega) (by omega) (by simp; omega) ?_; intro v3 w3 hown3 hgrow3 hnil3)
          go_roundw
          case rel => exact ⟨r + 1, by omega, by go_num, by rw [HT.out]; exact hown3, (hnx.alloc hsize _).grown hgrow3 (by simp; omega) (fun j hj => (hown.lt j hj).1)⟩
          case measure => simp [intOf]; omega
        · obtain rfl : r = X.size := by omega
          rw [List.take_of_length_le (by simp)] at hown
          have HO := hide hown
          clear hown
          go_wp2_with fail
          go_roundw
          case rel =>
            refine ⟨k + 1, by omega, by go_num, ?_, hnx⟩
            rw [HS.out, List.length_append, size_data]
            exact HO.out
          case measure => simp [intOf]; omega
    · obtain rfl : k = xs.length := by omega
      rw [List.take_of_length_le (Nat.le_refl _)] at hown
      have hcv := own_conv (P := Tryd.prog) (src := 47) (dst := 9) hown rfl Tryd.underlying47 Tryd.underlying5 Tryd.underlying9
      go_wp2
      go_ret
      exact ⟨rfl, hnx⟩
set_option maxHeartbeats 1000000 in
set_option maxRecDepth 100000 in
/-- same, of two lists that are the same -/
theorem same_any (a1 a2 : Option Addr) (b1 o1 c1 b2 o2 c2 : Nat) (xs : List ByteArray) (w : World) (h1 : 0 < xs.length → a1 = some ⟨b1, o1, none⟩) (h2 : 0 < xs.length → a2 = some ⟨b2, o2, none⟩) (l1 : Lies b1 o1 w xs) (l2 : Lies b2 o2 w xs) (hlen : xs.length ≤ 1099511627776) :
    Calls Tryd.prog 26 #[.slice a1 xs.length c1, .slice a2 xs.length c2] w fun e w' => e = .returned (.bool true) ∧ Below w.heap.size w w' := by
  have L1 := hide l1
  have L2 := hide l2
  clear l1 l2
  go_enter Tryd.func26, Tryd.ntmps26
  go_wp2_with fail
  go_loopw [5] (fun i wr => ∃ k : Nat, k ≤ xs.length ∧ i = .int .i64 k ∧ Lies b1 o1 wr xs ∧ Lies b2 o2 wr xs ∧ Below w.heap.size w wr) (fun i _ => xs.length - (intOf i).toNat)
  case atStart => exact ⟨0, Nat.zero_le _, rfl, L1.out, L2.out, Below.refl _ _⟩
  case round =>
    clear L1 L2
    obtain ⟨k, hk, rfl, hl1, hl2, hnx⟩ := hrel
    by_cases hlt : k < xs.length
    · obtain rfl := h1 (by omega)
      obtain rfl := h2 (by omega)
      have d1 := hl1 k _ (List.getElem?_eq_getElem hlt)
      have d2 := hl2 k _ (List.getElem?_eq_getElem hlt)
      have hk1 : (k : Int) < (xs.length : Int) := by omega
      have hk0 : (0 : Int) ≤ (k : Int) := by omega
      have L1 := hide hl1
      have L2 := hide hl2
      clear hl1 hl2
      generalize xs[k] = X at *
      go_wp2_with fail
      go_region_held3 (fun w' => w'.cell? ⟨b1, o1 + k, none⟩ = some (.string X) ∧ w'.cell? ⟨b2, o2 + k, none⟩ = some (.string X)) (go_keep) (fail)
      go_wp2
      go_roundw
      case rel => exact ⟨k + 1, by omega, by go_num, L1.out, L2.out, hnx.drew⟩
      case measure => simp [intOf]; omega
    · go_wp2
      go_ret
      exact ⟨rfl, hnx⟩
/-- a text written over -/
def turnB (x : ByteArray) : ByteArray := if x.size = 0 then ⟨#[120]⟩ else strOf (UInt8.ofNat ((x.data.toList.getD 0 0).toNat ^^^ 1) :: x.data.toList.drop 1)
theorem bxor8 (a b : Nat) (ha : a < 256) (hb : b < 256) : bits .xor .u8 (a : Int) (b : Int) = ((a ^^^ b : Nat) : Int) := by
  have hx : a ^^^ b < 2 ^ 8 := Nat.xor_lt_two_pow (by omega) (by omega)
  have o : ∀ c : Nat, c < 256 → (BitVec.ofInt 8 (c : Int)).toNat = c := fun c hc => by
    rw [BitVec.ofInt_natCast, BitVec.toNat_ofNat]; exact Nat.mod_eq_of_lt (by omega)
  show IntKind.u8.wrap ((BitVec.ofInt 8 (a : Int) ^^^ BitVec.ofInt 8 (b : Int)).toNat : Int) = _
  rw [BitVec.toNat_xor, o a ha, o b hb]
  exact u8_in (by omega) (by omega)
/-- the list, its first k texts written over -/
def ovK (xs : List ByteArray) (k : Nat) : List ByteArray := (xs.take k).map turnB ++ xs.drop k
theorem ovK_len (xs : List ByteArray) (k : Nat) : (ovK xs k).length = xs.length := by simp [ovK]; omega
theorem ovK_get (xs : List ByteArray) (k : Nat) (h : k < xs.length) : (ovK xs k)[k]? = some xs[k] := by
  unfold ovK
  rw [List.getElem?_append_right (by simp; omega)]
  simp only [List.length_map, List.length_take, List.getElem?_drop]
  rw [show min k xs.length = k by omega, Nat.sub_self, Nat.add_zero, List.getElem?_eq_getElem h]
theorem ovK_set (xs : List ByteArray) (k : Nat) (h : k < xs.length) : (ovK xs k).set k (turnB xs[k]) = ovK xs (k + 1) := by
  unfold ovK
  have hl : ((xs.take k).map turnB).length = k := by simp; omega
  rw [List.set_append_right _ _ (by omega), hl, Nat.sub_self, List.drop_eq_getElem_cons h, List.set_cons_zero, List.take_succ_eq_append_getElem h, List.map_append, List.append_assoc]
  rfl
theorem byte_string (w : World) (V : Nat) (hV : V < 256) : (convert 47 9 (.slice (some ⟨w.heap.size, 0, none⟩) 1 1)).run Tryd.prog (w.alloc (.cells #[.int .u8 (V : Int)] 5)).drew = .ok (.string (strOf [UInt8.ofNat V])) (w.alloc (.cells #[.int .u8 (V : Int)] 5)).drew := by
  have := run_convert_bytes_back (P := Tryd.prog) (w.alloc (.cells #[.int .u8 (V : Int)] 5)).drew 47 9 5 ⟨w.heap.size, 0, none⟩ 1 [UInt8.ofNat V] Tryd.underlying47 Tryd.underlying5 Tryd.underlying9 (fun j hj => by
    obtain rfl : j = 0 := by simpa using hj
    have e : (UInt8.ofNat V).toNat = V := by rw [UInt8.toNat_ofNat']; omega
    simp [Addr.add, e])
  exact this
set_option maxHeartbeats 1000000 in
set_option maxRecDepth 100000 in
/-- over -/
theorem over_any (base g cap : Nat) (xs : List ByteArray) (w : World) (hown : w.ownsRow base 9 1 (.slice (some ⟨g, 0, none⟩) xs.length cap) xs.length (xs.map Value.string)) (hg : base ≤ g) (hgl : g < w.heap.size) (hlen : xs.length ≤ 1099511627776) (hs : ∀ x ∈ xs, x.size ≤ 1099511627776) :
    Calls Tryd.prog 27 #[.slice (some ⟨g, 0, none⟩) xs.length cap] w fun e w' => e = .returned (.tuple #[]) ∧ w'.ownsRow base 9 1 (.slice (some ⟨g, 0, none⟩) xs.length cap) xs.length ((xs.map turnB).map Value.string) ∧ Below base w w' := by
  have HO := hide hown
  have HS := hide hs
  clear hown hs
  go_enter Tryd.func27, Tryd.ntmps27
  go_wp2_with fail
  go_loopw [2] (fun i wr => ∃ k : Nat, k ≤ xs.length ∧ i = .int .i64 k ∧ wr.ownsRow base 9 1 (.slice (some ⟨g, 0, none⟩) xs.length cap) xs.length ((ovK xs k).map Value.string) ∧ g < wr.heap.size ∧ Below base w wr) (fun i _ => xs.length - (intOf i).toNat)
  case atStart => exact ⟨0, Nat.zero_le _, rfl, by simpa [ovK] using HO.out, hgl, Below.refl _ _⟩
  case round =>
    clear HO hgl
    obtain ⟨k, hk, rfl, hown, hgl, hnx⟩ := hrel
    by_cases hlt : k < xs.length
    · have d1 := hown.cellAt k (by omega)
      rw [List.getElem?_map, ovK_get xs k hlt] at d1
      have f1 := hown.frozenAt k
      have hX := HS.out _ (List.getElem_mem hlt)
      have hset : ((ovK xs k).map Value.string).set k (.string (turnB xs[k])) = (ovK xs (k + 1)).map Value.string := by rw [← ovK_set xs k hlt, List.map_set]
      have HSET := hide hset
      have HOWN := hide hown
      clear hset hown
      generalize xs[k] = X at *
      have hk1 : (k : Int) < (xs.length : Int) := by omega
      have hk0 : (0 : Int) ≤ (k : Int) := by omega
      by_cases h0 : X.size = 0
      · have he : X.toList.isEmpty = true := by rw [ByteArray.toList_eq]; simp; exact Array.eq_empty_of_size_eq_zero h0
        have hT : turnB X = ⟨#[120]⟩ := by unfold turnB; rw [if_pos h0]
        have HT := hide hT
        clear hT
        go_wp2_with fail
        go_roundw
        case rel => exact ⟨k + 1, by omega, by go_num, by rw [← HSET.out, HT.out]; exact (HOWN.out.stored k _).1, by simpa using hgl, hnx.setCell (by exact hg) _⟩
        case measure => simp [intOf]; omega
      · have he : X.toList.isEmpty = false := by
          rw [ByteArray.toList_eq, Bool.eq_false_iff]
          intro h
          apply h0
          simp at h
          show X.data.size = 0
          rw [h]; rfl
        have hx0 : ∀ w', (Instr.index 9 (.string X) (.int .i64 0)).run Tryd.prog w' = .ok (.int .u8 ((X.data.toList.getD 0 0).toNat : Int)) w' := fun w' => by
          have := ix_str w' X 0 (by omega)
          have e : X.data.toList.getD 0 0 = X[0]'(by omega) := by
            rw [List.getD_eq_getElem?_getD, List.getElem?_eq_getElem (by rw [size_data]; omega)]; rfl
          rw [e]
          exact this
        have hv := (X.data.toList.getD 0 0).toNat_lt
        have hT : turnB X = strOf (UInt8.ofNat ((X.data.toList.getD 0 0).toNat ^^^ 1) :: X.data.toList.drop 1) := by unfold turnB; rw [if_neg h0]
        generalize (X.data.toList.getD 0 0).toNat = v0 at *
        have hxr : bits .xor .u8 (v0 : Int) 1 = ((v0 ^^^ 1 : Nat) : Int) := bxor8 v0 1 (by omega) (by omega)
        have hvl : v0 ^^^ 1 < 2 ^ 8 := Nat.xor_lt_two_pow (by omega) (by omega)
        generalize v0 ^^^ 1 = V at *
        have hcv := byte_string wr V (by omega)
        have hT2 : turnB X = strOf [UInt8.ofNat V] ++ X.extract 1 X.size := by
          rw [hT]
          have : (strOf [UInt8.ofNat V] ++ X.extract 1 X.size).data.toList = UInt8.ofNat V :: X.data.toList.drop 1 := by
            rw [ByteArray.data_append, Array.toList_append, Lib.extract_data, List.take_of_length_le (by rw [List.length_drop, size_data]; exact Nat.le_refl _)]
            rfl
          rw [← strOf_toList (strOf [UInt8.ofNat V] ++ X.extract 1 X.size), this]
        have HT := hide hT2
        have hsz : (strOf [UInt8.ofNat V]).size = 1 := strOf_size _
        have hsz2 : (X.extract 1 X.size).size = X.size - 1 := by rw [ByteArray.size_extract]; omega
        have hszz : (strOf [UInt8.ofNat V] ++ X.extract 1 X.size).size ≤ 9223372036854775807 := by rw [ByteArray.size_append, hsz, hsz2]; omega
        clear hT hT2
        generalize strOf [UInt8.ofNat V] = B1 at *
        have hX1 : (1 : Int) ≤ (X.size : Int) := by omega
        have dA : (wr.alloc (.cells #[.int .u8 (V : Int)] 5)).cell? ⟨g, k, none⟩ = some (.string X) := by rw [World.cell?_alloc_lt _ _ _ (by exact hgl)]; exact d1
        go_wp2_with fail
        go_region
        go_wp2
        go_roundw
        case rel =>
          refine ⟨k + 1, by omega, by go_num, ?_, by simp; omega, ?_⟩
          · rw [← HSET.out, HT.out]
            exact ((HOWN.out.stored k _).1.alloc _).drew
          · have hss : Below base w (wr.setCell ⟨g, k, none⟩ (.string (B1 ++ X.extract 1 X.size))) := hnx.setCell hg _
            exact (hss.alloc (by rw [World.size_setCell]; omega) _).drew
        case measure => simp [intOf]; omega
    · obtain rfl : k = xs.length := by omega
      have he : ovK xs xs.length = xs.map turnB := by unfold ovK; rw [List.take_of_length_le (Nat.le_refl _), List.drop_eq_nil_of_le (Nat.le_refl _), List.append_nil]
      rw [he] at hown
      clear he
      go_wp2
      go_end0
      exact ⟨rfl, hown, hnx⟩
end Go.Proofs.YtfcghfllhcjmnaaDoor
