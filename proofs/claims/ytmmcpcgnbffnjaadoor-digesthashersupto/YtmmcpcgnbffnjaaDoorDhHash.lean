import Derived.Test.YtmmcpcgnbffnjaaDoorDkKnown
namespace Go.Proofs.YtmmcpcgnbffnjaaDoor
open Go.RowKit
/-- a Hasher at block b that has seen t -/
def HS (b : Nat) (w : World) (t : List UInt8) : Prop := ∃ q n r, Env b w q n r [.int .u32 (crcN 0 t : Int)] ∧ Seen q n r t
theorem HS.below {b : Nat} {w w' : World} {t : List UInt8} (h : HS b w t) (hb : Below w.heap.size w w') : HS b w' t := by
  obtain ⟨q, n, r, hE, hS⟩ := h
  exact ⟨q, n, r, hE.below hb, hS⟩
theorem HS.lt {b : Nat} {w : World} {t : List UInt8} (h : HS b w t) : b < w.heap.size := by
  obtain ⟨q, n, r, hE, hS⟩ := h
  exact hE.blk.2
theorem Env.grown {b : Nat} {w w' : World} {q : Q} {n : Nat} {r : List UInt8} {ex : List Value} {b' : Nat} (h : Env b w q n r ex) (hg : w.grownBy w' (some b')) (hne : b ≠ b') (h3 : 3 ≤ b') : Env b w' q n r ex := by
  have hlt := h.blk.2
  have h3' := h.blk.1
  have cell : ∀ (k j : Nat), k < w.heap.size → k ≠ b' → w'.cell? ⟨k, j, none⟩ = w.cell? ⟨k, j, none⟩ := fun k j hk hk' => hg.cell_far ⟨k, j, none⟩ hk (by simpa using hk')
  have froz : ∀ (k j : Nat), k < w.heap.size → k ≠ b' → w'.frozen? ⟨k, j, none⟩ = w.frozen? ⟨k, j, none⟩ := fun k j hk hk' => hg.frozen_far ⟨k, j, none⟩ hk (by simpa using hk')
  refine ⟨fun j v hv => ?_, fun j hj => ?_, ⟨h3', Nat.lt_of_lt_of_le hlt hg.size⟩, h.len, h.q4, fun j hj => ?_, fun j hj => ?_⟩
  · rw [cell b _ hlt hne]; exact h.range j v hv
  · rw [cell b _ hlt hne, froz b _ hlt hne]; exact h.there j hj
  · rw [cell 1 _ (by omega) (by omega)]; exact h.sines j hj
  · rw [cell 2 _ (by omega) (by omega)]; exact h.turns j hj
theorem HS.grown {b b' : Nat} {w w' : World} {t : List UInt8} (h : HS b w t) (hg : w.grownBy w' (some b')) (hne : b ≠ b') (h3 : 3 ≤ b') : HS b w' t := by
  obtain ⟨q, n, r, hE, hS⟩ := h
  exact ⟨q, n, r, hE.grown hg hne h3, hS⟩
theorem splice_ex (q : Q) (n : Nat) (r : List UInt8) (v v' : Value) (hr : r.length = 64) : splice (Cl q n r [v]) 69 [v'] = Cl q n r [v'] := by
  unfold splice Cl
  have e : ∀ u, qL q ++ (Value.int .i64 (n : Int) :: (r.map ub ++ [u])) = (qL q ++ Value.int .i64 (n : Int) :: r.map ub) ++ [u] := by intro u; simp
  have l : (qL q ++ Value.int .i64 (n : Int) :: r.map ub).length = 69 := by simp [qL, hr]
  rw [e v, e v', List.take_append_of_le_length (by rw [l]; exact Nat.le_refl _), List.take_of_length_le (by rw [l]; exact Nat.le_refl _), List.drop_eq_nil_of_le (by rw [List.length_append, l]; simp)]
  simp
theorem Env.last {b : Nat} {w : World} {q : Q} {n : Nat} {r : List UInt8} {v : Value} (h : Env b w q n r [v]) (v' : Value) : Env b (w.setCell ⟨b, 69, none⟩ v') q n r [v'] := by
  have h3 := h.blk.1
  have hg := grown_setCells (grown_refl w (some b)) [v'] 69
  have hs : w.setCell ⟨b, 69, none⟩ v' = w.setCells b 69 [v'] := rfl
  rw [hs]
  refine ⟨?_, World.there_setCells h.there _ _ _, ⟨h3, Nat.lt_of_lt_of_le h.blk.2 hg.size⟩, h.len, h.q4, fun j hj => ?_, fun j hj => ?_⟩
  · rw [← splice_ex q n r v v' h.len]
    exact range_splice h.range (fun j hj => by have := h.there (69 + j) (by simp at hj ⊢; omega); rwa [Nat.zero_add] at this) (by rw [Cl_len, h.len]; simp)
  · rw [World.cell?_setCells_out b [v'] 69 w ⟨1, j, none⟩ (fun e _ => by simp at e; omega)]; exact h.sines j hj
  · rw [World.cell?_setCells_out b [v'] 69 w ⟨2, j, none⟩ (fun e _ => by simp at e; omega)]; exact h.turns j hj
def ZH : Array Value := (Cl (0, 0, 0, 0) 0 (List.replicate 64 0) [.int .u32 0]).toArray
theorem zero_hash (w : World) : (zeroValue 50).run Tryd.prog w = .ok (.agg ZH) w := by kernel_rfl
set_option maxHeartbeats 1000000 in
set_option maxRecDepth 100000 in
/-- NewHasher -/
theorem new_any (w : World) (h : Tabs w) :
    Calls Tryd.prog 6 #[] w fun e w' => ∃ B, e = .returned (.pointer (some ⟨B, 0, none⟩)) ∧ w.heap.size ≤ B ∧ HS B w' [] ∧ Below w.heap.size w w' := by
  have hE0 : Env w.heap.size (w.alloc (.cells ZH 50)) (0, 0, 0, 0) 0 (List.replicate 64 0) [.int .u32 (crcN 0 [] : Int)] := by
    rw [crcN_nil]
    exact env_new rfl ⟨by decide, by decide, by decide, by decide⟩ h.room h.sines h.turns
  have hB0 : Below w.heap.size w (w.alloc (.cells ZH 50)) := (Below.refl _ w).alloc (Nat.le_refl _) _
  have HE0 := hide hE0
  have HB0 := hide hB0
  have hzv := zero_hash
  have hzs : ZH.size = 70 := by kernel_rfl
  clear hE0 hB0
  generalize ZH = ZZ at *
  go_enter Tryd.func6, Tryd.ntmps6
  go_wp2
  go_ret
  exact ⟨_, rfl, Nat.le_refl _, ⟨_, _, _, HE0.out, seen_new _⟩, HB0.out⟩
set_option maxHeartbeats 1000000 in
set_option maxRecDepth 100000 in
/-- (*Hasher).Write -/
theorem hwrite_any (b : Nat) (w : World) (t : List UInt8) (s : ByteArray) (h : HS b w t) (hT : Tab4 0 w) (ht : t.length ≤ 1099511627776) (hs : s.size ≤ 1099511627776) :
    Calls Tryd.prog 8 #[.pointer (some ⟨b, 0, none⟩), .string s] w fun e w' => e = .returned (.int .i64 0) ∧ HS b w' (t ++ s.data.toList) ∧ w.grownBy w' (some b) := by
  obtain ⟨q, n, r, hE, hS⟩ := h
  have hn := hS.num
  have C : Hid (Calls Tryd.prog 15 #[.pointer (some ⟨b, 0, none⟩), .string s] w fun e w' => e = .returned (.tuple #[]) ∧ (∃ q' r', Env b w' q' (n + s.size) r' [.int .u32 (crcN 0 t : Int)] ∧ Seen q' (n + s.size) r' (t ++ s.data.toList)) ∧ w.grownBy w' (some b)) := write_seen b n q r t _ s w hE hS (by omega) hs
  have hbl := hE.blk
  clear hE hS
  go_enter Tryd.func8, Tryd.ntmps8
  go_wp2_with fail
  refine Calls.mono C.out ?_
  rintro e w1 ⟨rfl, ⟨q1, r1, hE1, hS1⟩, hg1⟩
  have c69 : w1.cell? ⟨b, 69, none⟩ = some (.int .u32 (crcN 0 t : Int)) := by
    have := hE1.range 69 (.int .u32 (crcN 0 t : Int)) (by rw [show (69 : Nat) = 5 + 64 from rfl, Cl_at, List.getElem?_append_right (by simp [hE1.len])]; simp [hE1.len])
    rwa [Nat.zero_add] at this
  have f69 : w1.frozen? ⟨b, 69, none⟩ = false := by have := (hE1.there 69 (by simp)).2; rwa [Nat.zero_add] at this
  have hT1 : Tab4 0 w1 := fun j hj => by rw [hg1.cell_far ⟨0, j, none⟩ (by show 0 < _; omega) (by simp; omega)]; exact hT j hj
  have CL : Hid (Calls Tryd.prog 16 #[.int .u32 (crcN 0 t : Int), .string s] w1 fun e w' => e = .returned (.int .u32 (crcN 0 (t ++ s.data.toList) : Int)) ∧ w1 = w') := by
    rw [crcN_append]
    exact lengthen_any _ s (crcN_lt _ (by omega)) hs w1 hT1
  have HE1 := hide hE1
  have HS1 := hide hS1
  have HG1 := hide hg1
  clear hE1 hS1 hg1
  generalize hcc : crcN 0 (t ++ s.data.toList) = c1 at *
  generalize crcN 0 t = c0 at *
  have HE2 := hide (HE1.out.last (.int .u32 (c1 : Int)))
  have HG2 : Hid (w.grownBy (w1.setCell ⟨b, 69, none⟩ (.int .u32 (c1 : Int))) (some b)) := grown_setCells HG1.out [.int .u32 (c1 : Int)] 69
  go_wp2_with (go_at_call 16; refine Calls.mono CL.out ?_; rintro e wx ⟨rfl, rfl⟩)
  go_ret
  exact ⟨rfl, ⟨_, _, _, by rw [hcc]; exact HE2.out, HS1.out⟩, HG2.out⟩
set_option maxHeartbeats 1000000 in
set_option maxRecDepth 100000 in
/-- (*Hasher).CRC -/
theorem hcrc_any (b : Nat) (w : World) (t : List UInt8) (h : HS b w t) :
    Calls Tryd.prog 12 #[.pointer (some ⟨b, 0, none⟩)] w fun e w' => e = .returned (.int .i64 (crcN 0 t : Int)) ∧ w = w' := by
  obtain ⟨q, n, r, hE, hS⟩ := h
  have c69 : w.cell? ⟨b, 69, none⟩ = some (.int .u32 (crcN 0 t : Int)) := by
    have := hE.range 69 (.int .u32 (crcN 0 t : Int)) (by rw [show (69 : Nat) = 5 + 64 from rfl, Cl_at, List.getElem?_append_right (by simp [hE.len])]; simp [hE.len])
    rwa [Nat.zero_add] at this
  have hlt := crcN_lt (w := 0) t (by omega)
  clear hE hS
  go_enter Tryd.func12, Tryd.ntmps12
  go_wp2
  go_ret
  exact ⟨rfl, rfl⟩
set_option maxHeartbeats 1000000 in
set_option maxRecDepth 100000 in
/-- (*Hasher).Count -/
theorem hcount_any (b : Nat) (w : World) (t : List UInt8) (h : HS b w t) :
    Calls Tryd.prog 14 #[.pointer (some ⟨b, 0, none⟩)] w fun e w' => e = .returned (.int .i64 (t.length : Int)) ∧ w = w' := by
  obtain ⟨q, n, r, hE, hS⟩ := h
  have c4 := hE.count
  rw [hS.num] at c4
  clear hE hS
  go_enter Tryd.func14, Tryd.ntmps14
  go_wp2
  go_ret
  exact ⟨rfl, rfl⟩
set_option maxHeartbeats 1000000 in
set_option maxRecDepth 100000 in
/-- (*Hasher).MD5 -/
theorem hmd5_any (b : Nat) (w : World) (t : List UInt8) (h : HS b w t) (ht : t.length ≤ 1099511627776) :
    Calls Tryd.prog 10 #[.pointer (some ⟨b, 0, none⟩)] w fun e w' => e = .returned (.string (strOf (md5L t))) ∧ Below w.heap.size w w' := by
  obtain ⟨q, n, r, hE, hS⟩ := h
  have hn := hS.num
  have hbl := hE.blk
  have hCl : (Cl q n r []).length = 69 := by rw [Cl_len, hE.len]; rfl
  have hR : w.rangeAt b 0 (Cl q n r []) := fun j v hv => hE.range j v (by
    have hj := (List.getElem?_eq_some_iff.1 hv).1
    have e : Cl q n r [Value.int .u32 (crcN 0 t : Int)] = Cl q n r [] ++ [Value.int .u32 (crcN 0 t : Int)] := by simp [Cl]
    rw [e, List.getElem?_append_left hj]
    exact hv)
  have C : Hid (Calls Tryd.prog 17 #[.agg (Cl q n r []).toArray] w fun e w' => e = .returned (.string (strOf (md5L t))) ∧ Below w.heap.size w w') :=
    sum_any q n r _ w hS hE.q4 (by omega) (by omega) hE.sines hE.turns
  clear hE hS
  generalize Cl q n r [] = CL at *
  go_enter Tryd.func10, Tryd.ntmps10
  go_wp2_with (first
    | (refine wpList_load_mid rfl 48 _ rfl b 0 rfl CL _ hR Tryd.underlying48 rfl (by rw [hCl]; kernel_rfl) ?_)
    | (go_at_call 17; refine Calls.mono C.out ?_; rintro e w9 ⟨rfl, hb9⟩))
  go_ret
  exact ⟨rfl, hb9⟩
end Go.Proofs.YtmmcpcgnbffnjaaDoor
