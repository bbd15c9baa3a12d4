import Derived.Test.YtnphdbmacccblaaMbLaws
namespace Go.Proofs.Ytnphdbmacccblaa
open Go.RowKit
/-- texts that are handed in, as they lie there -/
structure TxAt (w : World) (ao : Option Addr) (b o : Nat) (ys : List ByteArray) : Prop where
  at0 : 0 < ys.length → ao = some ⟨b, o, none⟩
  lt : 0 < ys.length → b < w.heap.size
  c0 : ∀ (q : Nat) (h : q < ys.length), w.cell? ⟨b, o + q, none⟩ = some (.string ys[q])
  fit : ∀ (q : Nat) (h : q < ys.length), ys[q].size ≤ 281474976710656
  len : ys.length ≤ 281474976710656
/-- numbers that are handed in, as they lie there -/
structure NmAt (w : World) (ao : Option Addr) (b o : Nat) (ys : List Int) : Prop where
  at0 : 0 < ys.length → ao = some ⟨b, o, none⟩
  lt : 0 < ys.length → b < w.heap.size
  c0 : ∀ (q : Nat) (h : q < ys.length), w.cell? ⟨b, o + q, none⟩ = some (.int .i64 ys[q])
  len : ys.length ≤ 281474976710656
theorem tmod_round (a n : Int) (hn : 0 < n) : Int.tmod (Int.tmod a n + n) n = a % n ∧ 0 ≤ a % n ∧ a % n < n ∧ 0 ≤ Int.tmod a n + n ∧ Int.tmod a n + n < 2 * n ∧ -n ≤ Int.tmod a n ∧ Int.tmod a n < n := by
  have h1 := Int.emod_nonneg a (Int.ne_of_gt hn)
  have h2 := Int.emod_lt_of_pos a hn
  have e : Int.tmod a n = a % n ∨ Int.tmod a n = a % n - n := by
    rw [Int.tmod_eq_emod]
    split
    · left; omega
    · right; rw [Int.natAbs_of_nonneg (by omega)]
  have hb : -n ≤ Int.tmod a n ∧ Int.tmod a n < n := by rcases e with e | e <;> (rw [e]; constructor <;> omega)
  refine ⟨?_, h1, h2, by omega, by omega, hb.1, hb.2⟩
  rw [Int.tmod_eq_emod_of_nonneg (by omega)]
  rcases e with e | e
  · rw [e, Int.add_emod_right, Int.emod_emod_of_dvd _ (Int.dvd_refl n)]
  · rw [e, show a % n - n + n = a % n by omega, Int.emod_emod_of_dvd _ (Int.dvd_refl n)]
/-- the letter that is sent at place k -/
def mkL (fs : List ByteArray) (k : Nat) : Lt := ⟨(k : Int) + 1, Int.tmod (k : Int) 7, Int.tmod (k : Int) 5, fs[k]?.getD ⟨#[]⟩⟩
def stA (fs : List ByteArray) (n : Nat) (ks : List Nat) : St := ⟨1024, n, ks.map (mkL fs), 0, fun _ _ => false⟩
theorem tm_adr (k : Nat) (d : Int) (h1 : 0 < d) (h2 : d ≤ 68) : adr (Int.tmod (k : Int) d) = true := by
  rw [Int.tmod_eq_emod_of_nonneg (by omega)]
  have := Int.emod_nonneg (k : Int) (Int.ne_of_gt h1)
  have := Int.emod_lt_of_pos (k : Int) h1
  exact adr_t.2 ⟨by omega, by omega⟩
theorem good_A (fs : List ByteArray) (n : Nat) (ks : List Nat) (h : ks.length ≤ 1024) : Good (stA fs n ks) := by
  refine ⟨by show (1 : Int) ≤ 1024; omega, by show (1024 : Int) ≤ 1024; omega, ?_, fun x hx => ?_⟩
  · show ((ks.map (mkL fs)).length : Int) ≤ 1024
    rw [List.length_map]
    omega
  · obtain ⟨k, _, rfl⟩ := List.mem_map.1 hx
    exact ⟨tm_adr k 7 (by omega) (by omega), tm_adr k 5 (by omega) (by omega)⟩
/-- while it is sent -/
structure A1 (w0 wr : World) (R : Nat) (fs : List ByteArray) (q : Nat) : Prop where
  ml : ∃ S, Ml wr S R (stA fs q (List.range q)) ∧ ∀ k, S k → w0.heap.size ≤ k
  bl : Below w0.heap.size w0 wr
theorem A1.send {w0 wr : World} {R q : Nat} {fs : List ByteArray} (h : A1 w0 wr R fs q) (hq : q < fs.length) (h1 : q < 1024) (hs : fs[q].size ≤ 281474976710656) :
    Calls Try.prog 11 #[.pointer (some ⟨R, 0, none⟩), .int .i64 (Int.tmod (q : Int) 7), .int .i64 (Int.tmod (q : Int) 5), .string fs[q]] wr fun e w' => e = .returned (.tuple #[.int .i64 ((q : Int) + 1), .int .i64 0]) ∧ A1 w0 w' R fs (q + 1) := by
  obtain ⟨S, t, hS⟩ := h.ml
  have E0 : sndE (stA fs q (List.range q)) (Int.tmod (q : Int) 7) (Int.tmod (q : Int) 5) = 0 := by
    unfold sndE
    rw [if_pos ⟨tm_adr q 7 (by omega) (by omega), tm_adr q 5 (by omega) (by omega)⟩, if_neg (by simp [stA]), if_neg]
    show ¬ (1024 : Int) ≤ (((List.range q).map (mkL fs)).length : Int)
    rw [List.length_map, List.length_range]
    omega
  have N0 : sndN (stA fs q (List.range q)) (Int.tmod (q : Int) 7) (Int.tmod (q : Int) 5) = (q : Int) + 1 := by unfold sndN; rw [if_pos E0]; rfl
  have S0 : sndS (stA fs q (List.range q)) (Int.tmod (q : Int) 7) (Int.tmod (q : Int) 5) fs[q] = stA fs (q + 1) (List.range (q + 1)) := by
    unfold sndS
    rw [if_pos E0]
    unfold stA
    rw [List.range_succ, List.map_append]
    simp [mkL, hq]
  refine (send_all t (good_A fs q _ (by rw [List.length_range]; omega)) _ _ _ (by show q ≤ _; omega) hs).mono ?_
  rintro e w' ⟨rfl, S', m', k', n'⟩
  rw [E0, N0]
  rw [S0] at m'
  refine ⟨rfl, ⟨S', m', fun k e => ?_⟩, h.bl.trans ⟨k'.os, k'.tape, k'.output, k'.size, fun j hj => k'.block j (by have := h.bl.size; omega) (fun e => by have := hS j e; omega)⟩⟩
  rcases n' k e with z | z
  · exact hS k z
  · have := h.bl.size
    omega
theorem map_erase {α β : Type} (f : α → β) (l : List α) (j : Nat) : (l.map f).eraseIdx j = (l.eraseIdx j).map f := by
  rw [List.eraseIdx_eq_take_drop_succ, List.eraseIdx_eq_take_drop_succ, List.map_append, List.map_take, List.map_drop]
/-- while it is delivered -/
structure A3 (w0 wr : World) (B R : Nat) (vs : Value) (n : Nat) (fs : List ByteArray) (ks : List Nat) (sn : List Bool) : Prop where
  ml : ∃ S, Ml wr S R (stA fs n ks) ∧ ∀ k, S k → w0.heap.size ≤ k ∧ k < B
  row : wr.ownsRow B 4 1 vs n (blc sn)
  wB : w0.heap.size ≤ B
  kl : ks.length ≤ 1024
  bl : Below w0.heap.size w0 wr
theorem A1.three {w0 w1 wr : World} {R n : Nat} {vs : Value} {fs : List ByteArray} {sn : List Bool} (h : A1 w0 w1 R fs n) (hb : Below w1.heap.size w1 wr) (hr : wr.ownsRow w1.heap.size 4 1 vs n (blc sn)) (hn : n ≤ 1024) : A3 w0 wr w1.heap.size R vs n fs (List.range n) sn := by
  obtain ⟨S, t, hS⟩ := h.ml
  exact ⟨⟨S, t.below hb, fun k e => ⟨hS k e, t.sb k e⟩⟩, hr, h.bl.size, by rw [List.length_range]; exact hn, h.bl.trans (hb.mono h.bl.size)⟩
section
variable {w0 wr w' : World} {B R n : Nat} {vs : Value} {fs : List ByteArray} {ks : List Nat} {sn : List Bool}
theorem A3.rb (h : A3 w0 wr B R vs n fs ks sn) : ∀ k, vs.ownBlock = some k → B ≤ k := fun k e => (h.row.lt k e).1
theorem A3.below (h : A3 w0 wr B R vs n fs ks sn) (hb : Below wr.heap.size wr w') : A3 w0 w' B R vs n fs ks sn := by
  obtain ⟨S, t, hS⟩ := h.ml
  exact ⟨⟨S, t.below hb, hS⟩, own_kp h.row (Kp.of_below hb non) (fun _ _ f => f), h.wB, h.kl, h.bl.trans (hb.mono h.bl.size)⟩
theorem A3.deliver (h : A3 w0 wr B R vs n fs ks sn) (j : Nat) (hj : j < ks.length) :
    Calls Try.prog 12 #[.pointer (some ⟨R, 0, none⟩), .int .i64 (j : Int)] wr fun e w' => e = .returned (.tuple #[(mkL fs ks[j]).v, .int .i64 0]) ∧ A3 w0 w' B R vs n fs (ks.eraseIdx j) sn := by
  obtain ⟨S, t, hS⟩ := h.ml
  have hx : ltI (stA fs n ks).L (j : Int) = mkL fs ks[j] := by
    unfold ltI stA
    simp [hj]
  have hE : dlvE (stA fs n ks) (j : Int) = 0 := by
    unfold dlvE
    rw [if_pos (by unfold okI; show 0 ≤ (j : Int) ∧ (j : Int) < ((ks.map (mkL fs)).length : Int); rw [List.length_map]; omega), if_neg (by simp [stA])]
  have hV : dlvV (stA fs n ks) (j : Int) = mkL fs ks[j] := by unfold dlvV; rw [if_pos hE]; exact hx
  have hSt : dlvS (stA fs n ks) (j : Int) = stA fs n (ks.eraseIdx j) := by
    unfold dlvS
    rw [if_pos hE]
    unfold stA
    show (⟨1024, n, (ks.map (mkL fs)).eraseIdx j, 0, fun _ _ => false⟩ : St) = _
    rw [map_erase]
  refine (deliver_all t (good_A fs n ks h.kl) (j : Int)).mono ?_
  rintro e w' ⟨rfl, m', k'⟩
  rw [hE, hV]
  rw [hSt] at m'
  refine ⟨rfl, ⟨S, m', hS⟩, own_kp h.row k' (fun k e f => ?_), h.wB, ?_, h.bl.trans ⟨k'.os, k'.tape, k'.output, k'.size, fun j hj => k'.block j (by have := h.bl.size; omega) (fun e => by have := (hS j e).1; omega)⟩⟩
  · have := h.rb k e
    have := (hS k f).2
    omega
  · have := List.length_eraseIdx_le ks j
    have := h.kl
    omega
theorem A3.last (h : A3 w0 wr B R vs n fs [] sn) :
    Calls Try.prog 12 #[.pointer (some ⟨R, 0, none⟩), .int .i64 0] wr fun e w' => e = .returned (.tuple #[noL.v, .int .i64 131]) ∧ A3 w0 w' B R vs n fs [] sn := by
  obtain ⟨S, t, hS⟩ := h.ml
  have hE : dlvE (stA fs n []) 0 = 131 := by
    unfold dlvE
    rw [if_neg (by unfold okI; show ¬ (0 ≤ (0 : Int) ∧ (0 : Int) < (([] : List Lt).length : Int)); simp)]
  have hV : dlvV (stA fs n []) 0 = noL := by unfold dlvV; rw [if_neg (by rw [hE]; omega)]
  have hSt : dlvS (stA fs n []) 0 = stA fs n [] := by unfold dlvS; rw [if_neg (by rw [hE]; omega)]
  refine (deliver_all t (good_A fs n [] h.kl) 0).mono ?_
  rintro e w' ⟨rfl, m', k'⟩
  rw [hE, hV]
  rw [hSt] at m'
  refine ⟨rfl, ⟨S, m', hS⟩, own_kp h.row k' (fun k e f => ?_), h.wB, h.kl, h.bl.trans ⟨k'.os, k'.tape, k'.output, k'.size, fun j hj => k'.block j (by have := h.bl.size; omega) (fun e => by have := (hS j e).1; omega)⟩⟩
  have := h.rb k e
  have := (hS k f).2
  omega
theorem A3.count (h : A3 w0 wr B R vs n fs [] sn) : Calls Try.prog 13 #[.pointer (some ⟨R, 0, none⟩)] wr fun e w' => e = .returned (.int .i64 0) ∧ wr = w' := by
  obtain ⟨S, ⟨M, v, t⟩, hS⟩ := h.ml
  exact mcount_any t (by show (1 : Int) ≤ 1024; omega)
theorem A3.cell {g cap : Nat} (h : A3 w0 wr B R (.slice (some ⟨g, 0, none⟩) n cap) n fs ks sn) {k : Nat} {b : Bool} (hk : sn[k]? = some b) (hn : k < n) : wr.cell? ⟨g, k, none⟩ = some (.bool b) ∧ wr.frozen? ⟨g, k, none⟩ = false := by
  refine ⟨(h.row.cellAt k (by omega)).trans ?_, h.row.frozenAt k⟩
  unfold blc
  rw [List.getElem?_map, hk]
  rfl
theorem A3.set {g cap : Nat} (h : A3 w0 wr B R (.slice (some ⟨g, 0, none⟩) n cap) n fs ks sn) (k : Nat) : A3 w0 (wr.setCell ⟨g, k, none⟩ (.bool true)) B R (.slice (some ⟨g, 0, none⟩) n cap) n fs ks (sn.set k true) := by
  obtain ⟨S, t, hS⟩ := h.ml
  have hg := h.rb g rfl
  obtain ⟨o, gr⟩ := h.row.stored k (.bool true)
  have kk : Kp wr (wr.setCell ⟨g, k, none⟩ (.bool true)) (fun q => q = g) := Kp.set (S := fun q => q = g) (Kp.refl wr _) (Or.inl rfl) k _
  refine ⟨⟨S, t.kp kk (fun q e f => ?_), hS⟩, ?_, h.wB, h.kl, h.bl.trans ⟨kk.os, kk.tape, kk.output, kk.size, fun j hj => kk.block j (by have := h.bl.size; omega) (fun e => by have := h.wB; omega)⟩⟩
  · have := (hS q e).2
    omega
  · rw [show blc (sn.set k true) = (blc sn).set k (.bool true) by unfold blc; rw [List.map_set]]
    exact o
end
/-- which letters are still there -/
structure Kk (n i : Nat) (e : Bool) (ks : List Nat) (sn : List Bool) : Prop where
  nd : ks.Nodup
  kl : ks.length = n - i
  kf : ∀ k ∈ ks, k < n ∧ sn[k]? = some false
  kp : e = true → ks = List.range' i (n - i)
theorem Kk.zero (n : Nat) (e : Bool) : Kk n 0 e (List.range n) (List.replicate n false) := by
  refine ⟨List.nodup_range, by simp, fun k hk => ?_, fun _ => by rw [List.range_eq_range']; rfl⟩
  have := List.mem_range.1 hk
  exact ⟨this, by simp [this]⟩
theorem Kk.next {n i : Nat} {e : Bool} {ks : List Nat} {sn : List Bool} (h : Kk n i e ks sn) (hi : i < n) (j : Nat) (hj : j < ks.length) (he : e = true → j = 0) : Kk n (i + 1) e (ks.eraseIdx j) (sn.set ks[j] true) ∧ ks[j] < n ∧ sn[ks[j]]? = some false ∧ (e = true → ks[j] = i) := by
  have hm := h.kf _ (List.getElem_mem hj)
  refine ⟨⟨h.nd.sublist (List.eraseIdx_sublist _ _), by rw [List.length_eraseIdx_of_lt hj, h.kl]; omega, fun k hk => ?_, fun e1 => ?_⟩, hm.1, hm.2, fun e1 => ?_⟩
  · have h1 := h.kf k (List.mem_of_mem_eraseIdx hk)
    refine ⟨h1.1, ?_⟩
    rw [List.getElem?_set_ne (fun e2 => ?_)]
    · exact h1.2
    · obtain ⟨q, hq, hne, hv⟩ := List.mem_eraseIdx_iff_getElem.1 hk
      have hp := List.pairwise_iff_getElem.1 h.nd
      rcases Nat.lt_or_ge q j with z | z
      · exact hp q j hq hj z (by rw [hv]; exact e2.symm)
      · exact hp j q hj hq (by omega) (by rw [hv]; exact e2)
  · have e2 := h.kp e1
    subst e2
    rw [he e1]
    obtain ⟨m, hm⟩ : ∃ m, n - i = m + 1 := ⟨n - i - 1, by omega⟩
    rw [hm, List.range'_succ, show n - (i + 1) = m by omega]
    rfl
  · have e2 := h.kp e1
    subst e2
    have := he e1
    subst this
    simp
end Go.Proofs.Ytnphdbmacccblaa
