import Derived.Test.YtfcghfllhcjmnaaDoorDmSum
import Derived.Test.YtfcghfllhcjmnaaDoorDcCrc
namespace Go.Proofs.YtfcghfllhcjmnaaDoor
open Go.RowKit
theorem zero_run : Tryd.zeroCells53 = (Cl (0, 0, 0, 0) 0 (List.replicate 64 0) []).toArray := by kernel_rfl
theorem seen_new (q : Q) : Seen q 0 (List.replicate 64 0) [] := ⟨rfl, rfl, fun h => by omega, rfl⟩
theorem cat_take_le (xs : List ByteArray) (k : Nat) : (cat (xs.take k)).length ≤ (cat xs).length := by
  have : cat xs = cat (xs.take k) ++ cat (xs.drop k) := by
    unfold cat
    rw [← List.flatten_append, ← List.map_append, List.take_append_drop]
  rw [this, List.length_append]
  omega
theorem cat_mem {xs : List ByteArray} {k : Nat} (h : k < xs.length) : xs[k].size ≤ (cat xs).length := by
  have h1 := cat_take_le xs (k + 1)
  rw [cat_snoc xs k h, List.length_append, size_data] at h1
  omega
set_option maxHeartbeats 2000000 in
set_option maxRecDepth 100000 in
/-- digest.MD5 -/
theorem md5_any (ao : Option Addr) (b off cap : Nat) (xs : List ByteArray) (w : World) (hao : 0 < xs.length → ao = some ⟨b, off, none⟩) (hb : 0 < xs.length → b < w.heap.size) (hl : Lies b off w xs) (hlen : xs.length ≤ 1099511627776) (hs : (cat xs).length ≤ 1099511627776) (hw : 3 ≤ w.heap.size) (hT1 : TabS 1 w) (hT2 : TabT 2 w) :
    Calls Tryd.prog 11 #[.slice ao xs.length cap] w fun e w' => e = .returned (.string (strOf (md5L (cat xs)))) ∧ Below w.heap.size w w' := by
  have hE0 : Env w.heap.size (w.alloc (.cells Tryd.zeroCells53 53)) (0, 0, 0, 0) 0 (List.replicate 64 0) [] := by
    rw [zero_run]
    exact env_new rfl ⟨by decide, by decide, by decide, by decide⟩ hw hT1 hT2
  have hB0 : Below w.heap.size w (w.alloc (.cells Tryd.zeroCells53 53)) := (Below.refl _ w).alloc (Nat.le_refl _) _
  have HE0 := hide hE0
  have HB0 := hide hB0
  have HL := hide hl
  clear hE0 hB0 hl
  go_enter Tryd.func11, Tryd.ntmps11
  go_wp2_with fail
  go_loopw [8] (fun i wr => ∃ k : Nat, k ≤ xs.length ∧ i = .int .i64 k ∧ (∃ q n r, Env w.heap.size wr q n r [] ∧ Seen q n r (cat (xs.take k))) ∧ Below w.heap.size w wr) (fun i _ => xs.length - (intOf i).toNat)
  case atStart => exact ⟨0, Nat.zero_le _, rfl, ⟨_, _, _, HE0.out, seen_new _⟩, HB0.out⟩
  case round =>
    obtain ⟨k, hk, rfl, ⟨q, n, r, hE, hS⟩, hnx⟩ := hrel
    have hn : n ≤ 1099511627776 := by rw [hS.num]; exact Nat.le_trans (cat_take_le xs k) hs
    by_cases hlt : k < xs.length
    · obtain rfl := hao (by omega)
      have hb' := hb (by omega)
      have hc := (hnx.cell (p := ⟨b, off + k, none⟩) hb').trans (HL.out k _ (List.getElem?_eq_getElem hlt))
      have hx := cat_mem hlt
      have hS' := cat_snoc xs k hlt
      generalize xs[k] = X at *
      have C : Hid (Calls Tryd.prog 28 #[.pointer (some ⟨w.heap.size, 0, none⟩), .string X] wr fun e w' => e = .returned (.tuple #[]) ∧ (∃ q' r', Env w.heap.size w' q' (n + X.size) r' [] ∧ Seen q' (n + X.size) r' (cat (xs.take (k + 1)))) ∧ wr.grownBy w' (some w.heap.size)) := by
        rw [hS']
        exact write_seen w.heap.size n q r _ [] X wr hE hS hn (by omega)
      have HN := hide hnx
      clear hS' hE hS hnx
      go_wp2_with (go_at_call 28; refine Calls.mono C.out ?_; rintro e w9 ⟨rfl, ⟨q9, r9, hE9, hS9⟩, hg9⟩)
      go_roundw
      case rel => exact ⟨k + 1, by omega, by go_num, ⟨_, _, _, hE9, hS9⟩, HN.out.grown hg9 HN.out.size (fun j hj => by cases hj; exact Nat.le_refl _)⟩
      case measure => simp [intOf]; omega
    · obtain rfl : k = xs.length := by omega
      rw [List.take_of_length_le (Nat.le_refl _)] at hS
      have hR := hE.range
      have hCl : (Cl q n r []).length = 69 := by rw [Cl_len, hE.len]; rfl
      have C : Hid (Calls Tryd.prog 29 #[.agg (Cl q n r []).toArray] wr fun e w' => e = .returned (.string (strOf (md5L (cat xs)))) ∧ Below wr.heap.size wr w') :=
        sum_any q n r _ wr hS hE.q4 hn (by have := hnx.size; omega) hE.sines hE.turns
      have HN := hide hnx
      clear hE hS hnx
      generalize Cl q n r [] = CL at *
      go_wp2_with (first
        | (refine wpList_load_mid rfl 53 _ rfl w.heap.size 0 rfl CL _ hR Tryd.underlying53 rfl (by rw [hCl]; kernel_rfl) ?_)
        | (go_at_call 29; refine Calls.mono C.out ?_; rintro e w9 ⟨rfl, hb9⟩))
      go_ret
      exact ⟨rfl, HN.out.trans (hb9.mono HN.out.size)⟩
end Go.Proofs.YtfcghfllhcjmnaaDoor
