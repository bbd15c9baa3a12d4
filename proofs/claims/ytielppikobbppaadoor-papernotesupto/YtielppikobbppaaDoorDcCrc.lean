import Derived.Test.YtielppikobbppaaDoorDcLen
namespace Go.Proofs.YtielppikobbppaaDoor
open Go.RowKit
/-- a list of texts in memory -/
def Lies (b off : Nat) (w : World) (xs : List ByteArray) : Prop := ∀ (j : Nat) x, xs[j]? = some x → w.cell? ⟨b, off + j, none⟩ = some (.string x)
def cat (xs : List ByteArray) : List UInt8 := (xs.map (·.data.toList)).flatten
theorem cat_snoc (xs : List ByteArray) (k : Nat) (h : k < xs.length) : cat (xs.take (k + 1)) = cat (xs.take k) ++ xs[k].data.toList := by
  unfold cat
  rw [List.take_succ_eq_append_getElem h, List.map_append, List.flatten_append]
  simp
theorem cat_nil : cat [] = [] := rfl
set_option maxHeartbeats 1000000 in
set_option maxRecDepth 100000 in
/-- digest.CRC, of parts that lie in memory -/
theorem crc_any (ao : Option Addr) (b off cap : Nat) (xs : List ByteArray) (w : World) (hao : 0 < xs.length → ao = some ⟨b, off, none⟩) (hl : Lies b off w xs) (hlen : xs.length ≤ 9223372036854775807) (hs : ∀ x ∈ xs, x.size ≤ 9223372036854775807) (hT : Tab4 0 w) :
    Calls Tryd.prog 46 #[.slice ao xs.length cap] w fun e w' => e = .returned (.int .i64 (crcN 0 (cat xs) : Int)) ∧ w = w' := by
  have HT := hide hT
  have HL := hide hl
  have HS := hide hs
  clear hT hl hs
  go_enter Tryd.func46, Tryd.ntmps46
  go_wp2
  go_loop [3, 8] (fun v i => ∃ k : Nat, k ≤ xs.length ∧ i = .int .i64 k ∧ v = .int .u32 (crcN 0 (cat (xs.take k)) : Int)) (fun _ i => xs.length - (intOf i).toNat)
  case atStart => exact ⟨0, Nat.zero_le _, rfl, by rw [List.take_zero, cat_nil, crcN_nil]; rfl⟩
  case round =>
    obtain ⟨k, hk, rfl, rfl⟩ := hrel
    have hW4 : crcN 0 (cat (xs.take k)) < 4294967296 := crcN_lt _ (by omega)
    by_cases hlt : k < xs.length
    · obtain rfl := hao (by omega)
      clear hao
      have hc := HL.out k _ (List.getElem?_eq_getElem hlt)
      have hx := HS.out _ (List.getElem_mem hlt)
      have hS := cat_snoc xs k hlt
      have hN : crcN 0 (cat (xs.take (k + 1))) = crcN (crcN 0 (cat (xs.take k))) xs[k].data.toList := by rw [hS, crcN_append]
      generalize xs[k] = X at *
      generalize crcN 0 (cat (xs.take k)) = W at *
      have HN := hide hN
      clear hS hN
      have C : Hid (Calls Tryd.prog 72 #[.int .u32 (W : Int), .string X] w fun e w' => e = .returned (.int .u32 (crcN W X.data.toList : Int)) ∧ w = w') := lengthen_any W X hW4 hx w HT.out
      go_wp2_with (go_at_call 72; refine Calls.mono C.out ?_; rintro e w' ⟨rfl, rfl⟩)
      go_round
      case rel => exact ⟨k + 1, by omega, by go_num, by rw [HN.out]⟩
      case measure => simp [intOf]; omega
    · obtain rfl : k = xs.length := by omega
      rw [List.take_of_length_le (Nat.le_refl _)] at hW4 ⊢
      go_wp2
      go_ret
      exact ⟨rfl, rfl⟩
end Go.Proofs.YtielppikobbppaaDoor
