import Derived.Test.YthlpklkdpggmkaaDoorGDjJoin
import Derived.Test.YthlpklkdpggmkaaDoorGFbProp
import Derived.Laws.BytesArg
import Derived.Lib.LazyBuf
namespace Go.Proofs.YthlpklkdpggmkaaDoor
open Go.RowKit
theorem mul_xor (p a b : Nat) : 2 ^ p * (a ^^^ b) = (2 ^ p * a) ^^^ (2 ^ p * b) := by
  apply Nat.eq_of_testBit_eq
  intro j
  rw [Nat.testBit_xor, Nat.testBit_two_pow_mul, Nat.testBit_two_pow_mul, Nat.testBit_two_pow_mul, Nat.testBit_xor]
  by_cases h : p ≤ j <;> simp [h]
theorem numL_lt (l : List UInt8) : numL l < 2 ^ (8 * l.length) := by
  induction l with
  | nil => decide
  | cons b r ih =>
    have hb := b.toNat_lt
    show b.toNat + 256 * numL r < 2 ^ (8 * (r.length + 1))
    rw [show 8 * (r.length + 1) = 8 * r.length + 8 by omega, Nat.pow_add]
    omega
theorem numL_cons (b : UInt8) (r : List UInt8) : numL (b :: r) = (2 ^ 8 * numL r) ^^^ b.toNat := by
  have hb := b.toNat_lt
  rw [xor_pow 8 (numL r) b.toNat (by omega)]
  show b.toNat + 256 * numL r = _
  omega
theorem numL_inj {a b : List UInt8} (hl : a.length = b.length) (h : numL a = numL b) : a = b := by
  induction a generalizing b with
  | nil => cases b with
    | nil => rfl
    | cons => simp at hl
  | cons x r ih => cases b with
    | nil => simp at hl
    | cons y t =>
      have hx := x.toNat_lt
      have hy := y.toNat_lt
      have h : x.toNat + 256 * numL r = y.toNat + 256 * numL t := h
      have e1 : x = y := UInt8.toNat_inj.1 (by omega)
      rw [e1, ih (by simpa using hl) (by omega)]
theorem numL_set (l : List UInt8) (j r : Nat) (hj : j < l.length) (hr : r < 8) : numL (l.set j (UInt8.ofNat (l[j].toNat ^^^ 2 ^ r))) = numL l ^^^ 2 ^ (8 * j + r) := by
  have hp : 2 ^ r < 256 := by
    have : (2 : Nat) ^ r ≤ 2 ^ 7 := Nat.pow_le_pow_right (by omega) (by omega)
    omega
  induction l generalizing j with
  | nil => simp at hj
  | cons b t ih =>
    have hb := b.toNat_lt
    cases j with
    | zero =>
      have hx : b.toNat ^^^ 2 ^ r < 2 ^ 8 := Nat.xor_lt_two_pow (by omega) (by omega)
      have e : (UInt8.ofNat (b.toNat ^^^ 2 ^ r)).toNat = b.toNat ^^^ 2 ^ r := by rw [UInt8.toNat_ofNat']; omega
      rw [List.set_cons_zero, numL_cons, numL_cons, List.getElem_cons_zero, e, Nat.mul_zero, Nat.zero_add, Nat.xor_assoc]
    | succ j =>
      rw [List.set_cons_succ, numL_cons, numL_cons, List.getElem_cons_succ, ih j (by simpa using hj), mul_xor]
      rw [show 8 * (j + 1) + r = 8 + (8 * j + r) by omega, Nat.pow_add 2 8]
      rw [Nat.xor_assoc, Nat.xor_assoc, Nat.xor_comm (2 ^ 8 * 2 ^ (8 * j + r))]
/-- what is laid over a text of n bits behind i bits of the pattern -/
def fl (n p m : Nat) : Nat → Nat
  | 0 => 0
  | i + 1 => if m / 2 ^ i % 2 = 1 ∧ p + i < n then fl n p m i ^^^ 2 ^ (p + i) else fl n p m i
theorem fl_eq (n p m : Nat) (hp : p ≤ n) (i : Nat) : fl n p m i = 2 ^ p * (m % 2 ^ (min i (n - p))) := by
  induction i with
  | zero => show 0 = 2 ^ p * (m % 2 ^ (min 0 (n - p))); rw [Nat.zero_min, Nat.pow_zero, Nat.mod_one, Nat.mul_zero]
  | succ i ih =>
    show (if m / 2 ^ i % 2 = 1 ∧ p + i < n then fl n p m i ^^^ 2 ^ (p + i) else fl n p m i) = _
    by_cases hin : p + i < n
    · have e1 : min (i + 1) (n - p) = i + 1 := by omega
      have e2 : min i (n - p) = i := by omega
      have em : m % 2 ^ (i + 1) = 2 ^ i * (m / 2 ^ i % 2) + m % 2 ^ i := by
        rw [Nat.pow_succ, Nat.mod_mul]
        omega
      have hlt : m % 2 ^ i < 2 ^ i := Nat.mod_lt _ (Nat.pow_pos (by omega))
      rw [ih, e1, e2, em]
      by_cases hb : m / 2 ^ i % 2 = 1
      · rw [if_pos ⟨hb, hin⟩, hb, Nat.pow_add, ← mul_xor, Nat.xor_comm, Nat.mul_one]
        congr 1
        have := xor_pow i 1 (m % 2 ^ i) hlt
        rw [Nat.mul_one] at this
        exact this
      · rw [if_neg (fun h => hb h.1), show m / 2 ^ i % 2 = 0 by omega, Nat.mul_zero, Nat.zero_add]
    · rw [if_neg (fun h => hin h.2), ih, show min (i + 1) (n - p) = min i (n - p) by omega]
/-- the sum changes just where the text does -/
theorem burst (s t : List UInt8) (p m : Nat) (hl : t.length = s.length) (hp : p ≤ 8 * s.length) (hm : m < 4294967296) (ht : numL t = numL s ^^^ fl (8 * s.length) p m 32) :
    (t = s ↔ crcN 0 t = crcN 0 s) := by
  have hX := fl_eq (8 * s.length) p m hp 32
  have hmm : m % 2 ^ (min 32 (8 * s.length - p)) < 4294967296 := Nat.lt_of_le_of_lt (Nat.mod_le _ _) hm
  have hst : stps (8 * s.length) (fl (8 * s.length) p m 32) = stps (8 * s.length - p) (m % 2 ^ (min 32 (8 * s.length - p))) := by
    rw [hX]
    conv => lhs; rw [show 8 * s.length = p + (8 * s.length - p) by omega, stps_add]
    rw [show p + (8 * s.length - p) - p = 8 * s.length - p by omega, stps_pow]
  have hcrc : crcN 0 t = crcN 0 s ^^^ stps (8 * s.length) (fl (8 * s.length) p m 32) := by
    unfold crcN
    rw [crcW_num, crcW_num, hl, ht, ← Nat.xor_assoc, stps_xor]
    exact (Nat.xor_assoc _ _ _).symm
  constructor
  · intro h; rw [h]
  · intro h
    rw [hcrc] at h
    have h0 : stps (8 * s.length) (fl (8 * s.length) p m 32) = 0 := by
      have := congrArg (crcN 0 s ^^^ ·) h
      simp only [← Nat.xor_assoc, Nat.xor_self, Nat.zero_xor] at this
      exact this
    rw [hst] at h0
    have hz : m % 2 ^ (min 32 (8 * s.length - p)) = 0 := by
      rcases Nat.eq_zero_or_pos (m % 2 ^ (min 32 (8 * s.length - p))) with h1 | h1
      · exact h1
      · exact absurd h0 (stps_ne _ hmm (by omega))
    apply numL_inj hl
    rw [ht, hX, hz, Nat.mul_zero, Nat.xor_zero]
end Go.Proofs.YthlpklkdpggmkaaDoor
namespace Go.Proofs.YthlpklkdpggmkaaDoor
open Go.RowKit
def splice (cs : List Value) (o : Nat) (vs : List Value) : List Value := cs.take o ++ vs ++ cs.drop (o + vs.length)
theorem range_splice {w : World} {b : Nat} {cs vs : List Value} {o : Nat} (h : w.rangeAt b 0 cs) (ht : w.there b o vs.length) (hl : o + vs.length ≤ cs.length) : (w.setCells b o vs).rangeAt b 0 (splice cs o vs) := by
  intro j v hv
  have same := World.rangeAt_setCells_same w b o vs ht
  rw [Nat.zero_add]
  unfold splice at hv
  by_cases h1 : j < o
  · rw [World.cell?_setCells_out b vs o w ⟨b, j, none⟩ (fun _ _ => Or.inl h1)]
    rw [List.append_assoc, List.getElem?_append_left (by rw [List.length_take]; omega), List.getElem?_take_of_lt h1] at hv
    have := h j v hv
    rwa [Nat.zero_add] at this
  · by_cases h2 : j < o + vs.length
    · rw [List.append_assoc, List.getElem?_append_right (by rw [List.length_take]; omega), List.length_take, List.getElem?_append_left (by omega)] at hv
      have := same (j - o) v (by rwa [show min o cs.length = o by omega] at hv)
      rwa [show o + (j - o) = j by omega] at this
    · rw [World.cell?_setCells_out b vs o w ⟨b, j, none⟩ (fun _ _ => Or.inr (by show o + vs.length ≤ j; omega))]
      rw [List.getElem?_append_right (by rw [List.length_append, List.length_take]; omega), List.length_append, List.length_take, List.getElem?_drop] at hv
      have := h j v (by rwa [show o + vs.length + (j - (min o cs.length + vs.length)) = j by omega] at hv)
      rwa [Nat.zero_add] at this
/-- []byte(s) -/
theorem bytes_new (s : ByteArray) (w : World) : ∃ (C : Nat) (W : World), (convert 9 56 (.string s)).run Tryd.prog w = .ok (.slice (some ⟨w.heap.size, 0, none⟩) s.size C) W ∧ W.rangeAt w.heap.size 0 (s.data.toList.map ub) ∧ W.there w.heap.size 0 s.size ∧ Below w.heap.size w W := by
  refine ⟨_, _, run_bytes_of_string w 9 56 5 s Tryd.underlying9 Tryd.underlying56 Tryd.underlying5, ?_, ?_, ?_⟩
  · intro j v hv
    have hj := (List.getElem?_eq_some_iff.1 hv).1
    rw [List.length_map, size_data] at hj
    have := World.cell?_alloc_mark w.drew (bytesRow s (grownCap w s.size 0 5)) 5 ((bytesRow s (grownCap w s.size 0 5)).size, (bytesRow s (grownCap w s.size 0 5)).size + 1) j
    rw [Nat.zero_add]
    rw [show w.drew.heap.size = w.heap.size from rfl] at this
    rw [this]
    unfold bytesRow
    rw [Array.getElem?_append_left (by simp; exact hj)]
    simpa [ub] using hv
  · intro j hj
    have hsz : (bytesRow s (grownCap w s.size 0 5)).size ≥ s.size := by unfold bytesRow; simp
    have := World.cell?_alloc_mark w.drew (bytesRow s (grownCap w s.size 0 5)) 5 ((bytesRow s (grownCap w s.size 0 5)).size, (bytesRow s (grownCap w s.size 0 5)).size + 1) j
    rw [show w.drew.heap.size = w.heap.size from rfl] at this
    refine ⟨?_, ?_⟩
    · rw [Nat.zero_add, this, Array.getElem?_eq_getElem (by omega)]
      rfl
    · have hb : (w.drew.alloc (.cells (bytesRow s (grownCap w s.size 0 5)) 5 ((bytesRow s (grownCap w s.size 0 5)).size, (bytesRow s (grownCap w s.size 0 5)).size + 1))).heap[w.heap.size]? = some (.cells (bytesRow s (grownCap w s.size 0 5)) 5 ((bytesRow s (grownCap w s.size 0 5)).size, (bytesRow s (grownCap w s.size 0 5)).size + 1)) := by
        show (w.heap.push _)[w.heap.size]? = _
        rw [Array.getElem?_push, if_pos rfl]
      simp only [World.frozen?, hb]
      simp
      omega
  · exact (Below.refl _ w).drew.alloc (Nat.le_refl _) _
set_option maxHeartbeats 1000000 in
set_option maxRecDepth 100000 in
theorem flipped_any (s : ByteArray) (p m : Nat) (w : World) (hs : s.size ≤ 1048576) (hp : p < 8 * s.size) (hm : m < 4294967296) :
    Calls Tryd.prog 12 #[.string s, .int .i64 (p : Int), .int .i64 (m : Int)] w fun e w' => ∃ t : List UInt8, e = .returned (.string (strOf t)) ∧ t.length = s.size ∧ numL t = numL s.data.toList ^^^ fl (8 * s.size) p m 32 ∧ Below w.heap.size w w' := by
  obtain ⟨C, W1, hcv, hR, hTh, hB⟩ := bytes_new s w
  have HR := hide hR
  have HTh := hide hTh
  have HB := hide hB
  clear hR hTh hB
  go_enter Tryd.func12, Tryd.ntmps12
  go_wp2_with fail
  clear hcv
  go_loopw [2, 8] (fun mv i wr => ∃ (k : Nat) (t : List UInt8), k ≤ 32 ∧ i = .int .i64 k ∧ mv = .int .i64 ((m / 2 ^ k : Nat) : Int) ∧ t.length = s.size ∧ numL t = numL s.data.toList ^^^ fl (8 * s.size) p m k ∧ wr.rangeAt w.heap.size 0 (t.map ub) ∧ wr.there w.heap.size 0 s.size ∧ Below w.heap.size w wr) (fun _ i _ => 32 - (intOf i).toNat)
  case atStart => exact ⟨0, s.data.toList, by omega, rfl, by rw [Nat.pow_zero, Nat.div_one], size_data s, (Nat.xor_zero _).symm, HR.out, HTh.out, HB.out⟩
  case round =>
    clear HR HTh HB
    obtain ⟨k, t, hk, rfl, rfl, htl, htn, hR, hTh, hnx⟩ := hrel
    have HR := hide hR
    have HTh := hide hTh
    have HNX := hide hnx
    have HTN := hide htn
    clear hR hTh hnx htn
    have hM2 : m / 2 ^ (k + 1) = m / 2 ^ k / 2 := by rw [Nat.pow_succ, Nat.div_div_eq_div_mul]
    have hfl : fl (8 * s.size) p m (k + 1) = if m / 2 ^ k % 2 = 1 ∧ p + k < 8 * s.size then fl (8 * s.size) p m k ^^^ 2 ^ (p + k) else fl (8 * s.size) p m k := rfl
    have hMl : m / 2 ^ k < 4294967296 := Nat.lt_of_le_of_lt (Nat.div_le_self _ _) hm
    generalize m / 2 ^ k = M at *
    have HM2 := hide hM2
    have HFL := hide hfl
    clear hM2 hfl
    by_cases hlt : k < 32
    · by_cases hbit : M % 2 = 1
      · have hq : ((M : Int) % 2 == 1) = true := by rw [show (M : Int) % 2 = 1 by omega]; rfl
        by_cases hin : p + k < 8 * s.size
        · have hin' : (p : Int) + (k : Int) < 8 * (s.size : Int) := by omega
          go_wp2_with fail
          go_loopw [10, 11] (fun mb j wq => ∃ r : Nat, r ≤ (p + k) % 8 ∧ j = .int .i64 r ∧ mb = .int .u8 ((2 ^ r : Nat) : Int) ∧ wq = wr) (fun _ j _ => 8 - (intOf j).toNat)
          case atStart => exact ⟨0, Nat.zero_le _, rfl, rfl, rfl⟩
          case round =>
            obtain ⟨r, hr, rfl, rfl, rfl⟩ := hrel
            have hpr : 2 ^ r ≤ 2 ^ 7 := Nat.pow_le_pow_right (by omega) (by omega)
            by_cases hrl : r < (p + k) % 8
            · have hpr2 : 2 ^ (r + 1) ≤ 2 ^ 7 := Nat.pow_le_pow_right (by omega) (by omega)
              have hps : 2 ^ (r + 1) = 2 * 2 ^ r := by rw [Nat.pow_succ, Nat.mul_comm]
              have HPS := hide hps
              rw [hps] at hpr2
              clear hps
              generalize 2 ^ r = R at *
              have hrl' : (r : Int) < ((p : Int) + (k : Int)) % 8 := by omega
              go_wp2
              go_roundw
              case rel => exact ⟨r + 1, by omega, by go_num, by rw [HPS.out]; go_num, by first | rfl | trivial⟩
              case measure => simp [intOf]; omega
            · obtain rfl : r = (p + k) % 8 := by omega
              have hrl' : ¬ (((p + k) % 8 : Nat) : Int) < ((p : Int) + (k : Int)) % 8 := by omega
              have hj : (p + k) / 8 < t.length := by omega
              have hcell : wr.cell? ⟨w.heap.size, (p + k) / 8, none⟩ = some (.int .u8 (t[(p + k) / 8].toNat : Int)) := by
                have := HR.out ((p + k) / 8) (ub t[(p + k) / 8]) (by simp [hj])
                rwa [Nat.zero_add] at this
              have hfr : wr.frozen? ⟨w.heap.size, (p + k) / 8, none⟩ = false := by
                have := (HTh.out ((p + k) / 8) (by omega)).2
                rwa [Nat.zero_add] at this
              have hset := numL_set t ((p + k) / 8) ((p + k) % 8) hj (by omega)
              rw [show 8 * ((p + k) / 8) + (p + k) % 8 = p + k by omega] at hset
              have hbl : t[(p + k) / 8].toNat < 256 := UInt8.toNat_lt _
              have hx := bxor8 t[(p + k) / 8].toNat (2 ^ ((p + k) % 8)) hbl (by omega)
              have hxl : t[(p + k) / 8].toNat ^^^ 2 ^ ((p + k) % 8) < 2 ^ 8 := Nat.xor_lt_two_pow (by omega) (by omega)
              have HSET : Hid (numL (t.set ((p + k) / 8) (UInt8.ofNat (t[(p + k) / 8].toNat ^^^ 2 ^ ((p + k) % 8)))) = numL s.data.toList ^^^ fl (8 * s.size) p m (k + 1)) := by
                show _ = _
                rw [hset, HTN.out, HFL.out, if_pos ⟨hbit, hin⟩, Nat.xor_assoc]
              clear hset
              have HRS : Hid (∀ v : Nat, v < 256 → (wr.setCell ⟨w.heap.size, (p + k) / 8, none⟩ (.int .u8 (v : Int))).rangeAt w.heap.size 0 ((t.set ((p + k) / 8) (UInt8.ofNat v)).map ub)) := fun v hv => by
                have h1 := range_splice (vs := [.int .u8 (v : Int)]) HR.out (fun j hj' => by have := HTh.out ((p + k) / 8 + j) (by simp at hj'; omega); rwa [Nat.zero_add] at this) (by simp; omega)
                have h2 : splice (t.map ub) ((p + k) / 8) [.int .u8 (v : Int)] = (t.set ((p + k) / 8) (UInt8.ofNat v)).map ub := by
                  unfold splice
                  have e : ub (UInt8.ofNat v) = .int .u8 (v : Int) := by unfold ub; rw [UInt8.toNat_ofNat', Nat.mod_eq_of_lt (by omega)]
                  rw [List.map_set, e, List.set_eq_take_append_cons_drop]
                  simp [hj]
                rw [h2] at h1
                exact h1
              generalize hXV : t[(p + k) / 8].toNat ^^^ 2 ^ ((p + k) % 8) = XV at *
              generalize t[(p + k) / 8].toNat = BV at *
              have hRv : 2 ^ ((p + k) % 8) < 256 := by omega
              generalize 2 ^ ((p + k) % 8) = RV at *
              have hpk : ((p : Int) + (k : Int)) / 8 < (s.size : Int) := by omega
              go_wp2_with fail
              go_roundw
              case rel => exact ⟨k + 1, t.set ((p + k) / 8) (UInt8.ofNat XV), by omega, by go_num, by rw [HM2.out]; go_num, by rw [List.length_set]; exact htl, HSET.out, HRS.out XV (by omega), World.there_setCells HTh.out w.heap.size ((p + k) / 8) [.int .u8 (XV : Int)], HNX.out.setCell (by simp) _⟩
              case measure => simp [intOf]; omega
        · have hin' : decide ((p : Int) + (k : Int) < 8 * (s.size : Int)) = false := by rw [decide_eq_false_iff_not]; omega
          have HFL' : Hid (fl (8 * s.size) p m (k + 1) = fl (8 * s.size) p m k) := by show _ = _; rw [HFL.out, if_neg (fun h => hin h.2)]
          go_wp2_with fail
          go_roundw
          case rel => exact ⟨k + 1, t, by omega, by go_num, by rw [HM2.out]; go_num, htl, by rw [HFL'.out]; exact HTN.out, HR.out, HTh.out, HNX.out⟩
          case measure => simp [intOf]; omega
      · have hq : ((M : Int) % 2 == 1) = false := by rw [show (M : Int) % 2 = 0 by omega]; rfl
        have HFL' : Hid (fl (8 * s.size) p m (k + 1) = fl (8 * s.size) p m k) := by show _ = _; rw [HFL.out, if_neg (fun h => hbit h.1)]
        go_wp2_with fail
        go_roundw
        case rel => exact ⟨k + 1, t, by omega, by go_num, by rw [HM2.out]; go_num, htl, by rw [HFL'.out]; exact HTN.out, HR.out, HTh.out, HNX.out⟩
        case measure => simp [intOf]; omega
    · obtain rfl : k = 32 := by omega
      have hcv := run_convert_bytes_back (P := Tryd.prog) wr 56 9 5 ⟨w.heap.size, 0, none⟩ C t Tryd.underlying56 Tryd.underlying5 Tryd.underlying9 (fun j hj => by
        rw [Addr.add_mid]
        exact HR.out j _ (by simp [hj, ub]))
      rw [htl] at hcv
      go_wp2
      go_ret
      exact ⟨t, rfl, htl, HTN.out, HNX.out⟩
theorem numL_le4 (c : Nat) (h : c < 4294967296) : numL (le4 c) = c := by
  unfold le4
  simp only [numL, UInt8.toNat_ofNat']
  omega
/-- the sum of a text with its own sum behind it -/
theorem crc_own (l : List UInt8) : crcN 0 (l ++ le4 (crcN 0 l)) = 4294967295 ^^^ stps 32 4294967295 := by
  have hc : crcN 0 l < 4294967296 := crcN_lt _ (by omega)
  rw [crcN_append]
  generalize crcN 0 l = c at *
  unfold crcN
  rw [crcW_num, numL_le4 c hc, Nat.xor_assoc, Nat.xor_self, Nat.xor_zero]
  rfl
/-- a frame that is changed within 32 bits is no frame -/
theorem enc_burst {m n : MM} {k : Nat} (h1 : 1 ≤ k) (h16 : k ≤ 16) (hF : FitAll m k) (hn : 1 ≤ n.kind ∧ n.kind ≤ 16) (hf : fitM n = true) (p q : Nat) (hl : (encS n).size = (encS m).size) (hp : p ≤ 8 * (encS m).size) (hq : q < 4294967296) (ht : numL (encS n).data.toList = numL (encS m).data.toList ^^^ fl (8 * (encS m).size) p q 32) : encS n = encS m := by
  have e1 : (encS m).data.toList = textL m ++ le4 (crcN 0 (textL m)) := by rw [encS_ok (hF.kind h1 h16) hF.fit, ByteArray.data_append, Array.toList_append, strOf_data, strOf_data]
  have e2 : (encS n).data.toList = textL n ++ le4 (crcN 0 (textL n)) := by rw [encS_ok hn hf, ByteArray.data_append, Array.toList_append, strOf_data, strOf_data]
  have hb := burst (encS m).data.toList (encS n).data.toList p q (by rw [size_data, size_data]; exact hl) (by rw [size_data]; exact hp) hq (by rw [size_data]; exact ht)
  have := hb.2 (by rw [e1, e2, crc_own, crc_own])
  rw [← strOf_toList (encS n), this, strOf_toList]
end Go.Proofs.YthlpklkdpggmkaaDoor
namespace Go.Proofs.YthlpklkdpggmkaaDoor
open Go.RowKit
theorem mod_nat (n : Int) (top : Nat) : ∃ P : Nat, n % ((top : Int) + 1) = (P : Int) ∧ P ≤ top := by
  have h1 := Int.emod_nonneg n (show (top : Int) + 1 ≠ 0 by omega)
  have h2 := Int.emod_lt_of_pos n (show 0 < (top : Int) + 1 by omega)
  exact ⟨(n % ((top : Int) + 1)).toNat, by omega, by omega⟩
set_option maxHeartbeats 8000000 in
set_option maxRecDepth 100000 in
/-- the law FrameBurst -/
theorem frameBurst_any (a : MM) (at' m' : Int) (w : World) (hT : TabF w) (hK : TabK w) (h6 : 6 ≤ w.heap.size) (hT4 : Tab4 5 w) :
    Calls Tryd.prog 5 #[.agg (msgV a), .int .i64 at', .int .i64 m'] w fun e w' => e = .returned (.bool true) ∧ Below w.heap.size w w' := by
  have KT : Hid (∀ w', Below w.heap.size w w' → TabF w' ∧ 6 ≤ w'.heap.size ∧ Tab4 5 w' ∧ TabK w') := fun w' hb => ⟨hT.below hb, Nat.le_trans h6 hb.size, fun j hj => (hb.cell (World.block_lt_of_cell? w _ (hT4 j hj))).trans (hT4 j hj), hK.below hb⟩
  obtain ⟨W0, hW0⟩ : ∃ W0, W0 = w.alloc (.cells (msgV a) 26) := ⟨_, rfl⟩
  have b0 : Below w.heap.size w W0 := by rw [hW0]; exact (Below.refl _ w).alloc (Nat.le_refl _) _
  have hA0 : W0.heap[w.heap.size]? = some (.cells (msgV a) 26) := by rw [hW0]; exact heap_last w _
  have P1 := hide (proper_any a W0 (KT.out _ b0).2.2.2)
  have B0 := hide b0
  clear hT hK h6 hT4 b0
  go_enter Tryd.func5, Tryd.ntmps5
  go_upto_region 1 with fail
  rw [← hW0]
  clear hW0
  go_wp2_with (refine wpList_loadMsg rfl (.tmp 3) rfl a w.heap.size rfl hA0 ?_)
  refine Calls.mono P1.out ?_
  rintro e w1 ⟨m, k, hk1, hk16, hF, rfl, b1⟩
  obtain ⟨WX, eX, hX, bX1, bX⟩ := laid_new (B0.out.trans (b1.mono B0.out.size)) m
  have BX := hide bX
  have FM := hide hF
  clear P1 hA0 b1 bX1 bX hF B0
  have E1 := encode_any m WX (KT.out _ BX.out).1 (KT.out _ BX.out).2.1 (KT.out _ BX.out).2.2.1
  rw [encE_fit hk1 hk16 FM.out] at E1
  have E1 := hide E1
  have SZ := enc_size m k hk1 hk16 FM.out
  have DV := hide (decV_fit hk1 hk16 FM.out)
  have BU : Hid (∀ (t : List UInt8) (n : MM) (p q : Nat), decM (strOf t) = some n → t.length = (encS m).size → p ≤ 8 * (encS m).size → q < 4294967296 → numL t = numL (encS m).data.toList ^^^ fl (8 * (encS m).size) p q 32 → strOf t = encS m) := fun t n p q hd hl hp hq hn => by
    obtain ⟨hk, hf, he⟩ := dec_back hd
    have := enc_burst hk1 hk16 FM.out hk hf p q (by rw [he, strOf_size, hl]) hp hq (by rw [he, strOf_data]; exact hn)
    rw [← this, he]
  go_upto_region 2 with (refine wpList_storeMsg rfl (.tmp 7) (.tmp 16) rfl w1.heap.size rfl m (mm0 0) rfl (heap_last _ _) ?_)
  rw [← eX]
  clear eX
  go_wp2_with (refine wpList_loadMsg rfl (.tmp 7) rfl m w1.heap.size rfl hX ?_)
  refine Calls.mono E1.out ?_
  rintro e w3 ⟨rfl, b3⟩
  have hX3 := blk_keep hX b3
  have B3 := hide (BX.out.trans (b3.mono BX.out.size))
  clear E1 hX b3
  have D := decode_any (encS m) w3 (KT.out _ B3.out).1 (KT.out _ B3.out).2.2.1
  rw [DV.out] at D
  have D := hide D
  obtain ⟨SM, hSM⟩ : ∃ SM, SM = encS m := ⟨_, rfl⟩
  rw [← hSM] at D BU SZ
  clear DV
  have hlt : ¬ (SM.size : Int) < 24 := by omega
  rw [← hSM]
  clear hSM
  go_wp2_with (go_at_call 10; refine Calls.mono (num5_any _ _) ?_; rintro e wn ⟨rfl, rfl⟩)
  refine Calls.mono D.out ?_
  rintro e w5 ⟨rfl, b5⟩
  have hX5 := blk_keep hX3 b5
  obtain ⟨WZ, eZ, hZ, bZ1, bZ⟩ := laid_new (B3.out.trans (b5.mono B3.out.size)) m
  have hXZ := blk_keep hX5 bZ1
  have BZ := hide bZ
  clear D hX3 b5 bZ1 bZ hX5
  go_upto_region 6 with (refine wpList_storeMsg rfl (.tmp 10) (.tmp 33) rfl w5.heap.size rfl m (mm0 0) rfl (heap_last _ _) ?_)
  rw [← eZ]
  clear eZ
  obtain ⟨s24, s44⟩ := SZ
  have htop : 8 * (SM.size : Int) - 1 = ((8 * SM.size - 1 : Nat) : Int) := by omega
  obtain ⟨P, hP, hPl⟩ := mod_nat at' (8 * SM.size - 1)
  obtain ⟨M, hM, hMl⟩ := mod_nat m' 4294967295
  have C1 : Hid (∀ w', Calls Tryd.prog 13 #[.int .i64 at', .int .i64 (8 * (SM.size : Int) - 1)] w' fun e w'' => e = .returned (.int .i64 (P : Int)) ∧ w' = w'') := fun w' => by
    rw [htop, ← hP]; exact clipped_any at' (8 * SM.size - 1) (by omega) w'
  have C2 : Hid (∀ w', Calls Tryd.prog 13 #[.int .i64 m', .int .i64 4294967295] w' fun e w'' => e = .returned (.int .i64 (M : Int)) ∧ w' = w'') := fun w' => by
    rw [← hM]; exact clipped_any m' 4294967295 (by omega) w'
  have FL := hide (flipped_any SM P M WZ (by omega) (by omega) (by omega))
  clear htop hP hM
  go_wp2_with (first | (refine wpList_loadMsgG rfl (.tmp 10) rfl m w5.heap.size rfl hZ ?_) | (refine wpList_loadMsgG rfl (.tmp 7) rfl m w1.heap.size rfl hXZ ?_) | (refine wpList_neqMsg rfl (.tmp 39) (.tmp 40) _ rfl m m rfl rfl ?_; rw [sameM_self]) | (go_at_call 10; refine Calls.mono (num5_any _ _) ?_; rintro e wn ⟨rfl, rfl⟩))
  refine Calls.mono (C1.out _) ?_
  rintro e wn ⟨rfl, rfl⟩
  go_wp2_with fail
  refine Calls.mono (C2.out _) ?_
  rintro e wn ⟨rfl, rfl⟩
  go_wp2_with fail
  refine Calls.mono FL.out ?_
  rintro e w6 ⟨t, rfl, htl, htn, b6⟩
  have B6 := hide (BZ.out.trans (b6.mono BZ.out.size))
  have BT := hide (fun n hd => BU.out t n P M hd htl (by omega) (by omega) htn)
  clear C1 C2 FL BU htl htn b6 hZ hXZ
  by_cases hts : strOf t = SM
  · have h1 : ((strOf t).toList == SM.toList) = true := by rw [eq_beq]; exact decide_eq_true hts
    generalize strOf t = TT at *
    go_wp2_with fail
    go_ret
    exact ⟨rfl, B6.out⟩
  · have h1 : ((strOf t).toList == SM.toList) = false := by rw [eq_beq]; exact decide_eq_false hts
    have D2 := decode_any (strOf t) w6 (KT.out _ B6.out).1 (KT.out _ B6.out).2.2.1
    rcases decE_cases (strOf t) with ⟨_, n, hn⟩ | ⟨hE1, hE2, hn⟩
    · exact absurd (BT.out n hn) hts
    · unfold decV at D2
      rw [hn] at D2
      dsimp only [Option.getD_none] at D2
      have D2 := hide D2
      clear hn BT KT hts
      generalize decE (strOf t) = E at *
      generalize strOf t = TT at *
      have hE0 : (E != 0) = true := by simp; omega
      go_wp2_with fail
      refine Calls.mono D2.out ?_
      rintro e w7 ⟨rfl, b7⟩
      obtain ⟨WV, eV, hV, bV1, bV⟩ := laid_new (B6.out.trans (b7.mono B6.out.size)) (mm0 0)
      have BV := hide bV
      clear b7 bV1 bV D2 hV
      go_upto_region 12 with (refine wpList_storeMsg rfl (.tmp 13) (.tmp 59) rfl w7.heap.size rfl (mm0 0) (mm0 0) rfl (heap_last _ _) ?_)
      rw [← eV]
      clear eV
      go_wp2_with (go_at_call 10; refine Calls.mono (num5_any _ _) ?_; rintro e wn ⟨rfl, rfl⟩)
      go_ret
      exact ⟨by first | rfl | (rw [hE0]; rfl), BV.out⟩
end Go.Proofs.YthlpklkdpggmkaaDoor
