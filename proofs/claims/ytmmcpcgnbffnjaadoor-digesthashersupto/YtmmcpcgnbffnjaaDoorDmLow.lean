import Derived.Test.YtmmcpcgnbffnjaaDoorDmSplit
import Derived.Laws.OwnMore
namespace Go.Proofs.YtmmcpcgnbffnjaaDoor
open Go.RowKit
theorem info5 : (Tryd.prog.info? 5).map (fun i => (i.zero, i.size, i.bytes)) = some (some (.int .u8 0), 1, 1) := by kernel_rfl
/-- a number as so many bytes, the lowest first -/
def lowL (n size : Nat) : List UInt8 := (List.range size).map fun i => UInt8.ofNat (n / 2 ^ (8 * i) % 256)
theorem lowL_len (n size : Nat) : (lowL n size).length = size := by simp [lowL]
theorem lowL_succ (n k : Nat) : lowL n (k + 1) = lowL n k ++ [UInt8.ofNat (n / 2 ^ (8 * k) % 256)] := by simp [lowL, List.range_succ]
theorem row_put {t : List UInt8} {k N : Nat} (hl : t.length = k) (hn : k < N) (x : Nat) (hx : x < 256) :
    (t.map ub ++ List.replicate (N - k) (Value.int .u8 0)).set k (.int .u8 (x : Int)) = (t ++ [UInt8.ofNat x]).map ub ++ List.replicate (N - (k + 1)) (Value.int .u8 0) := by
  obtain ⟨m, hm⟩ : ∃ m, N - k = m + 1 := ⟨N - k - 1, by omega⟩
  rw [hm, show N - (k + 1) = m by omega, List.set_append_right _ _ (by simp; omega)]
  have e : ub (UInt8.ofNat x) = .int .u8 (x : Int) := by
    unfold ub
    rw [UInt8.toNat_ofNat', Nat.mod_eq_of_lt (by omega)]
  rw [List.map_append, List.map_cons, e]
  simp [hl, List.replicate_succ]
theorem cell_at_end {t : List UInt8} {k n : Nat} {z : Value} (hl : t.length = k) (hn : 0 < n) : (t.map ub ++ List.replicate n z)[k]? = some z := by
  rw [List.getElem?_append_right (by simp; omega)]
  simp [hl, hn]
set_option maxHeartbeats 1000000 in
set_option maxRecDepth 100000 in
/-- lowFirst -/
theorem low_any (n N : Nat) (_hx : n < 18446744073709551616) (hN : N ≤ 8) (w : World) :
    Calls Tryd.prog 24 #[.int .u64 (n : Int), .int .i64 (N : Int)] w fun e w' => e = .returned (.string (strOf (lowL n N))) ∧ Below w.heap.size w w' := by
  obtain ⟨i0, hi, hz0, hz1, hz2⟩ := info_parts info5
  go_enter Tryd.func24, Tryd.ntmps24
  go_wp2_with (at_make; refine wpList_make_full _ rfl _ _ 60 rfl w.heap.size 5 i0 (.int .u8 0) 1 Tryd.underlying60 hi hz0 hz1 _ _ _ _ N rfl rfl (by omega) (by omega) (by rw [hz2]; omega) (by unfold maxLen; omega) (Nat.le_refl _) ?_)
  intro w1 hown1 hgrow1
  have hb1 : Below w.heap.size w w1 := (Below.refl _ w).grown hgrow1 (Nat.le_refl _) (by simp)
  rw [toList_madeCells_one] at hown1
  go_wp2
  go_loopw [11] (fun i wr => ∃ k : Nat, k ≤ N ∧ i = .int .i64 k ∧ wr.ownsRow w.heap.size 5 1 (.slice (some ⟨w.heap.size, 0, none⟩) N N) N ((lowL n k).map ub ++ List.replicate (N - k) (Value.int .u8 0)) ∧ Below w.heap.size w wr)
    (fun i _ => N - (intOf i).toNat)
  case atStart => exact ⟨0, Nat.zero_le _, rfl, by simpa [lowL] using hown1, hb1⟩
  case round =>
    obtain ⟨k, hk, rfl, hown, hnx⟩ := hrel
    have hsize := hnx.size
    by_cases hlt : k < N
    · have hc1 := hown.cellAt k (by omega)
      rw [cell_at_end (lowL_len n k) (by omega)] at hc1
      have hc2 := hown.frozenAt k
      go_wp2
      go_roundw
      case rel =>
        have e : (n : Int) / 2 ^ (8 * k) % 256 = ((n / 2 ^ (8 * k) % 256 : Nat) : Int) := by
          rw [Int.natCast_emod, Int.natCast_ediv, Int.natCast_pow]; rfl
        rw [e]
        refine ⟨k + 1, by omega, by go_num, ?_, hnx.setCell (by simp) _⟩
        have := (hown.stored k (.int .u8 ((n / 2 ^ (8 * k) % 256 : Nat) : Int))).1
        rw [row_put (lowL_len n k) hlt _ (Nat.mod_lt _ (by omega)), ← lowL_succ] at this
        exact this
      case measure => simp [intOf]; omega
    · obtain rfl : k = N := by omega
      rw [Nat.sub_self, List.replicate_zero, List.append_nil] at hown
      have hc := own_conv (P := Tryd.prog) (src := 60) (dst := 9) hown (lowL_len n k).symm Tryd.underlying60 Tryd.underlying5 Tryd.underlying9
      go_wp2
      go_ret
      exact ⟨rfl, hnx⟩
end Go.Proofs.YtmmcpcgnbffnjaaDoor
