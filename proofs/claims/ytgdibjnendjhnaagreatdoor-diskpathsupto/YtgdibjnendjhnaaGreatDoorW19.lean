import Derived.Test.YtgdibjnendjhnaaGreatDoorW12
import Derived.Test.YtgdibjnendjhnaaGreatDoorShelf
namespace Go.Proofs.YtgdibjnendjhnaaGreatDoor
open Go.RowKit
def bl (xs : List ByteArray) : List (List UInt8) := xs.map (·.data.toList)
theorem bl_get {xs : List ByteArray} {k : Nat} {x : ByteArray} (h : xs[k]? = some x) : (bl xs)[k]? = some x.data.toList := by simp [bl, h]
theorem ba_ext {a b : ByteArray} (h : a.data.toList = b.data.toList) : a = b := by
  cases a with
  | mk a => cases b with
    | mk b => cases a with
      | mk a => cases b with
        | mk b => simp at h; rw [h]
theorem ret_str {a b : ByteArray} (h : a = b) : Ending.returned (.string a) = .returned (.string b) := by rw [h]
set_option maxHeartbeats 2000000 in
set_option maxRecDepth 100000 in
theorem rpath_any (bk o c : Nat) (xs : List ByteArray) (w : World) (hcells : ∀ (j : Nat) x, xs[j]? = some x → w.cell? ⟨bk, o + j, none⟩ = some (.string x))
    (hN : xs.length ≤ 1099511627776) (hlen : (Lib.join (bl xs) [47]).length ≤ 1099511627776) :
    Calls Tryz.prog 5 #[.slice (some ⟨bk, o, none⟩) xs.length c] w fun e w' => e = .returned (.string ⟨(Lib.join (bl xs) [47]).toArray⟩) ∧ w' = w := by
  have HC := hide hcells
  have HL := hide hlen
  clear hcells hlen
  go_enter Tryz.func5, Tryz.ntmps5
  go_wp2
  go_loop [3, 4] (fun s i => ∃ (k : Nat) (S : ByteArray), k ≤ xs.length ∧ i = .int .i64 k ∧ s = .string S ∧ S.data.toList = Lib.join ((bl xs).take k) [47]) (fun _ i => xs.length - (intOf i).toNat)
  case atStart => exact ⟨0, ⟨#[]⟩, Nat.zero_le _, rfl, rfl, by simp [Lib.join_nil]⟩
  case round =>
    obtain ⟨k, S, hk, rfl, rfl, hS⟩ := hrel
    have HS := hide hS
    have hSl : S.size ≤ 1099511627776 := by
      have h1 : S.size = S.data.toList.length := by simp
      rw [h1, hS]
      exact Nat.le_trans (join_take_le _ _) HL.out
    clear hS
    by_cases hlt : k < xs.length
    · have hck : w.cell? ⟨bk, o + k, none⟩ = some (.string xs[k]) := HC.out k _ (List.getElem?_eq_getElem hlt)
      have hget : (bl xs)[k]? = some xs[k].data.toList := bl_get (List.getElem?_eq_getElem hlt)
      have hjs := join_snoc (bl xs) k _ hget
      have hxl : xs[k].size ≤ 1099511627776 := by
        have h1 : xs[k].size = xs[k].data.toList.length := by simp
        have h2 := join_take_le (bl xs) (k + 1)
        have h3 := HL.out
        rw [hjs] at h2
        split at h2
        · omega
        · simp only [List.length_append] at h2; omega
      generalize hX : xs[k] = X at *
      have HJ := hide hjs
      clear hjs hget hX
      by_cases hk0 : k = 0
      · subst hk0
        have hck0 : w.cell? ⟨bk, o, none⟩ = some (.string X) := by simpa using hck
        clear hck
        go_wp2
        refine ⟨⟨0 + 1, S ++ X, by omega, by go_num, rfl, ?_⟩, by simp [intOf]; omega⟩
        have hS0 := HS.out
        rw [List.take_zero, Lib.join_nil] at hS0
        rw [HJ.out, if_pos rfl]
        simp [hS0]
      · have hpos : 0 < k := by omega
        have hk0' := hide hk0
        clear hk0
        go_wp2
        refine ⟨⟨k + 1, S ++ ⟨#[47]⟩ ++ X, by omega, by go_num, rfl, ?_⟩, by simp [intOf]; omega⟩
        rw [HJ.out, if_neg hk0'.out]
        simp [HS.out]
    · go_wp2
      go_ret
      refine ⟨ret_str (ba_ext ?_), rfl⟩
      rw [HS.out, List.take_of_length_le (by simp [bl]; omega)]
set_option maxHeartbeats 2000000 in
set_option maxRecDepth 100000 in
theorem rpath_none (a : Option Addr) (c : Nat) (w : World) :
    Calls Tryz.prog 5 #[.slice a 0 c] w fun e w' => e = .returned (.string ⟨#[]⟩) ∧ w' = w := by
  go_enter Tryz.func5, Tryz.ntmps5
  go_wp2
  refine wp_loop_rounds 1 ?_
  rw [rounds_succ]
  go_wp2
  go_ret
  exact ⟨rfl, rfl⟩
set_option maxHeartbeats 2000000 in
set_option maxRecDepth 100000 in
theorem opath_none (a : Option Addr) (c : Nat) (w : World) :
    Calls Tryz.prog 4 #[.slice a 0 c] w fun e w' => e = .returned (.string ⟨#[]⟩) ∧ w' = w := by
  go_enter Tryz.func4, Tryz.ntmps4
  go_wp2_with (go_at_call 9; refine Calls.mono (Tryz.strings_Join_none _ _ _ _) ?_; rintro e w' ⟨rfl, rfl⟩)
  go_ret
  exact ⟨rfl, rfl⟩
set_option maxHeartbeats 2000000 in
set_option maxRecDepth 100000 in
theorem opath_any (bk o c : Nat) (xs : List ByteArray) (w : World) (hcells : ∀ (j : Nat) x, xs[j]? = some x → w.cell? ⟨bk, o + j, none⟩ = some (.string x))
    (hbk : bk < w.heap.size) (hN : xs.length ≤ 1099511627776) (hcap : xs.length ≤ c) (hlen : (Lib.join (bl xs) [47]).length ≤ 1099511627776) :
    Calls Tryz.prog 4 #[.slice (some ⟨bk, o, none⟩) xs.length c] w fun e w' => e = .returned (.string ⟨(Lib.join (bl xs) [47]).toArray⟩) ∧ Below w.heap.size w w' := by
  have HJ : Hid (Calls Tryz.prog 9 #[.slice (some ⟨bk, o, none⟩) xs.length c, .string ⟨#[47]⟩] w fun e w' => e = .returned (.string ⟨(Lib.join (bl xs) [47]).toArray⟩) ∧ Below w.heap.size w w') :=
    Tryz.strings_Join bk o c xs ⟨#[47]⟩ w hcells hbk (by omega) hcap (Nat.le_trans hlen (by decide))
  clear hcells hlen hN hcap
  go_enter Tryz.func4, Tryz.ntmps4
  go_wp2_with (go_at_call 9; refine Calls.mono HJ.out ?_; rintro e w' ⟨rfl, hb⟩)
  go_ret
  exact ⟨rfl, hb⟩
end Go.Proofs.YtgdibjnendjhnaaGreatDoor
