import Derived.Test.YtbcpfekbnkkflaaDoorGPjSpNotes
import Derived.Test.YtbcpfekbnkkflaaDoorRows
import Derived.ProofKit
import Derived.OpenShut
import Derived.SizedLaws
import Derived.SliceStrings
import Derived.Deep.SlicePairs
namespace Go.Proofs.YtbcpfekbnkkflaaDoor
open Go.RowKit Go.Shelf
theorem infoInt : (Tryd.prog.info? 3).map (fun i => (i.zero, i.size, i.bytes)) = some (some (.int .i64 0), 1, 8) := by kernel_rfl
theorem cell_one1 (w : World) (t : TypeId) (v : Value) (_hv : v.oneCell' = true) : ∀ j u, [v][j]? = some u → (w.alloc (.cells #[v] t)).cell? ((⟨w.heap.size, 0, none⟩ : Addr).add j) = some u :=
  (World.ownsRow_lit (base := 0) (e := t) (size := 1) w #[v] 1 (by omega) (by unfold maxLen; omega) rfl).cells (g := w.heap.size) rfl
set_option maxHeartbeats 4000000 in
set_option maxRecDepth 100000 in
set_option linter.unusedSimpArgs false in
/-- the law PaperJournal -/
theorem journal_any (ao : Option Addr) (b o cap : Nat) (ns : List NV) (la : NV) (torn a by_ : Int) (more : ByteArray) (w : World) (hao : 0 < ns.length → ao = some ⟨b, o, none⟩) (hb : 0 < ns.length → b < w.heap.size) (hcap : ns.length ≤ cap) (hl : LiesO b o w ns) (hlen : ns.length ≤ 1048576) (hmore : more.size ≤ 1048576)
    (hI : ∀ n ∈ ns, nI n) (hIl : nI la) (hT4 : Tab4 0 w) (hP : Pow w) :
    Calls Tryd.prog 4 #[.slice ao ns.length cap, .agg #[.int .i64 la.1, .int .i64 la.2.1, .int .i64 la.2.2.1, .int .i64 la.2.2.2], .int .i64 torn, .int .i64 a, .int .i64 by_, .string more] w fun e w' => e = .returned (.bool true) ∧ Below w.heap.size w w' := by
  obtain ⟨i0, hi, hz0, hz1, hz2⟩ := info_parts infoInt
  obtain ⟨W0, hW0⟩ : ∃ W0, W0 = w.alloc (.cells #[.int .i64 la.1, .int .i64 la.2.1, .int .i64 la.2.2.1, .int .i64 la.2.2.2] 23) := ⟨_, rfl⟩
  have b0 : Below w.heap.size w W0 := by rw [hW0]; exact (Below.refl _ w).alloc (Nat.le_refl _) _
  have s0 : W0.heap.size = w.heap.size + 1 := by rw [hW0]; simp
  have KL : Hid (∀ w', Below W0.heap.size W0 w' → w'.cell? ⟨w.heap.size, 0, none⟩ = some (.int .i64 la.1) ∧ w'.cell? ⟨w.heap.size, 1, none⟩ = some (.int .i64 la.2.1) ∧ w'.cell? ⟨w.heap.size, 2, none⟩ = some (.int .i64 la.2.2.1) ∧ w'.cell? ⟨w.heap.size, 3, none⟩ = some (.int .i64 la.2.2.2)) := fun w' hw => by
    rw [hw.cell (by rw [s0]; exact Nat.lt_succ_self _), hw.cell (by rw [s0]; exact Nat.lt_succ_self _), hw.cell (by rw [s0]; exact Nat.lt_succ_self _), hw.cell (by rw [s0]; exact Nat.lt_succ_self _), hW0]; exact ⟨by simp, by simp, by simp, by simp⟩
  have FIN : Hid (∀ w', Below W0.heap.size W0 w' → Below w.heap.size w w') := fun w' hw => b0.trans (hw.mono b0.size)
  have FI := hide (fun w' (h : Below W0.heap.size W0 w') => first_any w' (hT4.below (FIN.out _ h) hT4.lt) (hP.below (FIN.out _ h)))
  have PN := hide (fun (n : NV) (hn : nI n) w' (h : Below W0.heap.size W0 w') => printNote_any n.1 n.2.1 n.2.2.1 n.2.2.2 hn.1 hn.2.1 hn.2.2.1 w' (hP.below (FIN.out _ h)) (hT4.below (FIN.out _ h) hT4.lt))
  have GN := hide (fun (n : NV) w' => goodNote_any n.1 n.2.1 n.2.2.1 n.2.2.2 w')
  have P1 := hide (fun (tx : ByteArray) (n q : Nat) (l : List NV) (h : notesAt tx n = some (l, q) ∧ nsz tx q = 0) (hs : tx.size ≤ 1000000000000) w' (hb : Below W0.heap.size W0 w') => parse_one tx w' hs (hT4.below (FIN.out _ hb) hT4.lt) h)
  have P2 := hide (fun (tx : ByteArray) (n q : Nat) (l : List NV) (h : notesAt tx n = some (l, q)) (hs : tx.size ≤ 1000000000000) w' (hb : Below W0.heap.size W0 w') => parse_more tx w' hs (hT4.below (FIN.out _ hb) hT4.lt) h)
  have LW : Hid (∀ w', Below W0.heap.size W0 w' → 0 < ns.length → LiesO b o w' ns ∧ b < w'.heap.size) := fun w' h z => ⟨hl.below (hb z) (FIN.out _ h), Nat.lt_of_lt_of_le (hb z) (FIN.out _ h).size⟩
  have HAO := hide hao
  have HI := hide hI
  have HIL := hide hIl
  have hJL := jl_len hI
  clear hT4 hP hao hb hl hI hIl
  go_enter Tryd.func4, Tryd.ntmps4
  go_wp2_with fail
  rw [← hW0]
  clear hW0 b0
  go_loopw [13, 14, 15] (fun s v i wr => ∃ k : Nat, k ≤ ns.length ∧ i = .int .i64 k ∧ s = .string (strOf (jl (ns.take k))) ∧ (∀ n ∈ ns.take k, nOk n) ∧ wr.ownsRow W0.heap.size 3 1 v k (endsOf ns k) ∧ Below W0.heap.size W0 wr) (fun _ _ i _ => ns.length - (intOf i).toNat)
  case atStart => exact ⟨0, Nat.zero_le _, rfl, rfl, fun n hn => by simp at hn, World.ownsRow_nil _ _ _ _, Below.refl _ _⟩
  case round =>
    obtain ⟨k, hk, rfl, rfl, hg, hown, hnx⟩ := hrel
    by_cases hlt : k < ns.length
    · have hlt' : (k : Int) < (ns.length : Int) := by omega
      obtain rfl := HAO.out (by omega)
      have HD : Hid (∀ w', Below W0.heap.size W0 w' → w'.cell? ⟨b, o + k * 4, none⟩ = some (.int .i64 ns[k].1) ∧ w'.cell? ⟨b, o + k * 4 + 1, none⟩ = some (.int .i64 ns[k].2.1) ∧ w'.cell? ⟨b, o + k * 4 + 2, none⟩ = some (.int .i64 ns[k].2.2.1) ∧ w'.cell? ⟨b, o + k * 4 + 3, none⟩ = some (.int .i64 ns[k].2.2.2)) := fun w' h => (LW.out w' h (by omega)).1 k hlt
      have hb1 := (LW.out wr hnx (by omega)).2
      have GK := hide (GN.out ns[k])
      have PK := hide (PN.out ns[k] (HI.out _ (List.getElem_mem hlt)))
      have SN := hide (jl_take ns k hlt)
      have hsz := nS_len (HI.out _ (List.getElem_mem hlt))
      have hjt := jl_len_take ns k
      have HG := hide hg
      have HOWN := hide hown
      have HNX := hide hnx
      have hsw := hnx.size
      have HTG := hide (List.take_succ_eq_append_getElem hlt)
      clear hg hown hnx
      generalize ns[k] = n at *
      obtain ⟨c, p, e, s⟩ := n
      dsimp only at HD GK PK
      obtain ⟨d1, d2, d3, d4⟩ := HD.out wr HNX.out
      cases hg1 : noteOk c p e s with
      | false =>
        have GF := hide (GK.out wr)
        rw [hg1] at GF
        go_wp2_with fail
        refine Calls.mono GF.out ?_
        rintro e' w1 ⟨rfl, b1⟩
        have B1 := hide (HNX.out.trans (b1.mono hsw))
        clear b1 d1 d2 d3 d4
        go_wp2_with fail
        refine Calls.mono (FI.out _ B1.out) ?_
        rintro e' w2 ⟨rfl, b2⟩
        have B2 := hide (FIN.out _ (B1.out.trans (b2.mono B1.out.size)))
        clear b2
        go_wp2_with fail
        go_ret
        exact ⟨rfl, B2.out⟩
      | true =>
        have GF := hide (GK.out wr)
        rw [hg1] at GF
        have eE : noteE c p e s = 0 := by unfold noteE; rw [if_pos hg1]
        have eS : noteS c p e s = nS (c, p, e, s) := rfl
        rw [eE, eS] at PK
        have HG1 : Hid (nOk (c, p, e, s)) := hg1
        have HSZ : Hid (strOf (jl (ns.take k)) ++ nS (c, p, e, s) = strOf (jl (ns.take (k + 1)))) := by show _ = _; rw [SN.out, strOf_app]
        have hs1 : (strOf (jl (ns.take k))).size = (jl (ns.take k)).length := strOf_size _
        have hs2 : (strOf (jl (ns.take (k + 1)))).size = (jl (ns.take (k + 1))).length := strOf_size _
        have hjt2 := jl_len_take ns (k + 1)
        clear hg1 eE eS GK SN
        generalize nS (c, p, e, s) = T at *
        go_wp2_with fail
        refine Calls.mono GF.out ?_
        rintro e' w1 ⟨rfl, b1⟩
        have B1 := hide (HNX.out.trans (b1.mono hsw))
        have O1 := hide (own_below HOWN.out b1)
        obtain ⟨d1, d2, d3, d4⟩ := HD.out w1 B1.out
        have hb2 := Nat.lt_of_lt_of_le hb1 b1.size
        clear b1
        go_wp2_with fail
        refine Calls.mono (PK.out w1 B1.out) ?_
        rintro e' w2 ⟨rfl, b2⟩
        have B2 := hide (B1.out.trans (b2.mono B1.out.size))
        have O2 := hide (own_below O1.out b2)
        have s2 := B2.out.size
        clear b2 d1 d2 d3 d4
        obtain ⟨hm1, hm2⟩ : k + 1 ≤ maxLen ∧ (k + 1) * 8 ≤ 140737488355328 := by unfold maxLen; omega
        have hcat : (strOf (jl (ns.take k))).size + T.size ≤ 140737488355328 := by omega
        go_wp2_with (first
          | (go_at_call 8; refine Calls.mono (pnum_any _ _) ?_; rintro e w' ⟨rfl, rfl⟩)
          | (at_builtin; refine wpList_append_own _ rfl _ _ 33 rfl W0.heap.size 3 i0 (.int .i64 0) 1 8 Tryd.underlying33 hi hz0 hz1 hz2 rfl (by decide) _ _ _ rfl (O2.out.alloc _) ⟨w2.heap.size, 0, none⟩ 1 1 _ rfl rfl (cell_one1 w2 3 _ rfl) (by intro u hu; simp at hu; subst hu; rfl) hm1 hm2 (le_alloc s2) ?_; intro v3 w3 o3 g3 n3; clear n3))
        go_roundw
        case rel =>
          have hsum : ((jl (ns.take k)).length : Int) + (T.size : Int) = ((jl (ns.take (k + 1))).length : Int) := by
            have := congrArg ByteArray.size HSZ.out
            rw [ByteArray.size_append, strOf_size, strOf_size] at this
            omega
          rw [hsum] at o3
          refine ⟨k + 1, by omega, by go_num, by rw [HSZ.out], fun n hn => ?_, ?_, ?_⟩
          · rw [HTG.out] at hn
            rcases List.mem_append.1 hn with h | h
            · exact HG.out n h
            · simp at h; subst h; exact HG1.out
          · rw [endsOf_succ]; exact o3
          · exact (B2.out.alloc s2 _).grown g3 (le_alloc s2) (fun j hj => (O2.out.lt j hj).1)
        case measure => simp [intOf]; omega
    · obtain rfl : k = ns.length := by omega
      have eT : ns.take ns.length = ns := List.take_length
      rw [eT] at hg ⊢
      obtain ⟨S, hS⟩ : ∃ S, S = strOf (jl ns) := ⟨_, rfl⟩
      have HSD : Hid (S.data.toList = jl ns) := by rw [hS]; exact strOf_data _
      have hSs : S.size = (jl ns).length := by rw [hS]; exact strOf_size _
      rw [← hS]
      have HSS := hide hSs
      have hSl : S.size ≤ 104857600 := by omega
      clear hS eT hlt hSs
      have HG := hide hg
      have HOWN := hide hown
      have HNX := hide hnx
      have hsw := hnx.size
      obtain ⟨d1, d2, d3, d4⟩ := KL.out wr hnx
      have hwl : w.heap.size < wr.heap.size := by omega
      have GK := hide (GN.out la)
      have PK := hide (PN.out la HIL.out)
      have hsz := nS_len HIL.out
      clear hg hown hnx
      obtain ⟨c, p, e, s⟩ := la
      dsimp only at KL GK PK d1 d2 d3 d4
      cases hg1 : noteOk c p e s with
      | false =>
        have GF := hide (GK.out wr)
        rw [hg1] at GF
        go_wp2_with fail
        refine Calls.mono GF.out ?_
        rintro e' w1 ⟨rfl, b1⟩
        have B1 := hide (HNX.out.trans (b1.mono hsw))
        clear b1 d1 d2 d3 d4
        go_wp2_with fail
        refine Calls.mono (FI.out _ B1.out) ?_
        rintro e' w2 ⟨rfl, b2⟩
        have B2 := hide (FIN.out _ (B1.out.trans (b2.mono B1.out.size)))
        clear b2
        go_wp2_with fail
        go_ret
        exact ⟨rfl, B2.out⟩
      | true =>
        have GF := hide (GK.out wr)
        rw [hg1] at GF
        have eE : noteE c p e s = 0 := by unfold noteE; rw [if_pos hg1]
        have eS : noteS c p e s = nS (c, p, e, s) := rfl
        rw [eE, eS] at PK
        have HG1 : Hid (nOk (c, p, e, s)) := hg1
        have hTp := nS_pos HG1.out
        have TN := hide (fun k (hk : k < (nS (c, p, e, s)).size) (tx : ByteArray) h => torn_notes HG.out HG1.out hk (tx := tx) h)
        clear hg1 eE eS GK
        generalize nS (c, p, e, s) = T at *
        obtain ⟨t1, t2, t3, t4, t5, t6, t7⟩ := tmod_round torn T.size (by omega)
        have hpI : torn % (T.size : Int) = ((pl torn T.size : Nat) : Int) := by unfold pl; exact (Int.toNat_of_nonneg t2).symm
        rw [hpI] at t1 t3
        have hIs : pl torn T.size < T.size := by omega
        generalize pl torn T.size = K at *
        have hT0 : ¬ (T.size : Int) = 0 := by omega
        have hTz : ((T.size : Int) == 0) = false := beq_eq_false_iff_ne.2 hT0
        clear hpI t2
        go_wp2_with fail
        refine Calls.mono GF.out ?_
        rintro e' w1 ⟨rfl, b1⟩
        have B1 := hide (HNX.out.trans (b1.mono hsw))
        have O1 := hide (own_below HOWN.out b1)
        obtain ⟨d1, d2, d3, d4⟩ := KL.out w1 B1.out
        have hw1 := Nat.lt_of_lt_of_le hwl b1.size
        clear b1
        go_wp2_with fail
        refine Calls.mono (PK.out w1 B1.out) ?_
        rintro e' w2 ⟨rfl, b2⟩
        have B2 := hide (B1.out.trans (b2.mono B1.out.size))
        have O2 := hide (own_below O1.out b2)
        have s2 := B2.out.size
        clear b2 d1 d2 d3 d4 PK GF O1 HOWN HNX
        have hcat : S.size + T.size ≤ 140737488355328 := by omega
        have hcat2 : S.size + (T.extract 0 K).size ≤ 140737488355328 := by rw [ByteArray.size_extract]; omega
        go_wp2_with (first
          | (go_at_call 8; refine Calls.mono (pnum_any _ _) ?_; rintro e w' ⟨rfl, rfl⟩))
        have TX := hide (TN.out K hIs (S ++ T.extract 0 K) (by rw [ba_app, HSD.out, Lib.extract_data]; simp))
        have hx1 : (S ++ T.extract 0 K).size ≤ 1000000000000 := by rw [ByteArray.size_append, ByteArray.size_extract]; omega
        refine Calls.mono (P1.out _ _ _ _ TX.out hx1 w2 B2.out) ?_
        rintro e' w3 ⟨v3, rfl, o3, b3⟩
        obtain ⟨a3, g3, c3, rfl, hc3, q1, q2, q3⟩ := own_notesO o3
        have B3 := hide (B2.out.trans (b3.mono B2.out.size))
        have O3 := hide (own_below O2.out b3)
        have s3 := B3.out.size
        have SM := hide (sameNotes_o a3 ao g3 0 c3 b o cap ns w3 q1 HAO.out q2 (fun z => (LW.out w3 B3.out z).2) (by omega) q3 (fun i hi => (LW.out w3 B3.out (by omega)).1 i hi))
        clear b3 o3 q1 q2 q3 O2 TX TN hx1
        rw [← HSS.out]
        go_wp2_with fail
        refine Calls.mono SM.out ?_
        rintro e' w4 ⟨rfl, b4⟩
        have B4 := hide (B3.out.trans (b4.mono B3.out.size))
        have O4 := hide (own_below O3.out b4)
        have s4 := B4.out.size
        clear b4 SM O3
        have hcat3 : S.size + more.size ≤ 140737488355328 := by omega
        go_wp2_with fail
        have hx2 : (S ++ more).size ≤ 1000000000000 := by rw [ByteArray.size_append]; omega
        have NX := notes_of HG.out (tx := S ++ more) (Y := more.data.toList) (by rw [ba_app, HSD.out]) ns.length (Nat.le_refl _)
        rw [List.take_length, ← HSS.out] at NX
        refine Calls.mono (P2.out _ _ _ _ NX hx2 w4 B4.out) ?_
        rintro e' w5 ⟨v5, l5, q5, rfl, ⟨l6, rfl⟩, hq5, hq6, hl5, o5, b5⟩
        obtain ⟨a5, g5, c5, rfl, hc5, q1, q2, q3⟩ := own_notesO o5
        have B5 := hide (B4.out.trans (b5.mono B4.out.size))
        have O5 := hide (own_below O4.out b5)
        have s5 := B5.out.size
        have hle : ns.length ≤ (ns ++ l6).length := by rw [List.length_append]; omega
        have SM := hide (sameNotes_o a5 ao g5 0 c5 b o cap ns w5 (fun z => q1 (by omega)) HAO.out (fun z => q2 (by omega)) (fun z => (LW.out w5 B5.out z).2) (by omega) (fun i hi => by have := q3 i (by omega); rw [List.getElem_append_left hi] at this; exact this) (fun i hi => (LW.out w5 B5.out (by omega)).1 i hi))
        rw [ByteArray.size_append] at hq6 hl5
        have hN5 : ∃ N, N = (ns ++ l6).length := ⟨_, rfl⟩
        obtain ⟨N5, hN5⟩ := hN5
        rw [← hN5] at hle hc5 hl5 ⊢
        clear b5 o5 q1 q2 q3 O4 NX hx2 hN5
        have hc6 : ns.length ≤ c5 := by omega
        have hle' : ¬ (N5 : Int) < (ns.length : Int) := by omega
        go_wp2_with fail
        refine Calls.mono SM.out ?_
        rintro e' w6 ⟨rfl, b6⟩
        have B6 := hide (B5.out.trans (b6.mono B5.out.size))
        have O6 := hide (own_below O5.out b6)
        have s6 := B6.out.size
        clear b6 SM O5
        have hq7 : ¬ (q5 : Int) < (S.size : Int) := by omega
        rcases Nat.eq_zero_or_pos ns.length with hn0 | hn0
        · have hn0' : ((ns.length : Int) == 0) = true := by rw [hn0]; rfl
          go_wp2_with fail
          go_ret
          exact ⟨rfl, FIN.out _ B6.out⟩
        · have hn0' : ((ns.length : Int) == 0) = false := beq_eq_false_iff_ne.2 (by omega)
          have hSp : 0 < S.size := by
            rw [HSS.out]
            obtain ⟨n, r, e⟩ := List.exists_cons_of_length_pos hn0
            rw [e]
            have e2 : jl (n :: r) = (nS n).data.toList ++ jl r := rfl
            have := nS_pos (HG.out n (by rw [e]; exact List.mem_cons_self))
            rw [e2, List.length_append, size_data]
            omega
          obtain ⟨u1, u2, u3, u4, u5, u6, u7⟩ := tmod_round a S.size (by omega)
          have hpI : a % (S.size : Int) = ((pl a S.size : Nat) : Int) := by unfold pl; exact (Int.toNat_of_nonneg u2).symm
          rw [hpI] at u1 u3
          have hPs : pl a S.size < S.size := by omega
          have SPA := hide (fun w' => spoilt_any S a by_ w' hSp (by omega))
          obtain ⟨P, hP⟩ : ∃ P, P = pl a S.size := ⟨_, rfl⟩
          rw [← hP] at u1 u3 hPs SPA
          have hS0 : ¬ (S.size : Int) = 0 := by omega
          obtain ⟨kl, hkl, hkl1, hkl2⟩ := jl_find ns HG.out P (by rw [← HSS.out]; exact hPs)
          clear hpI u2 hP
          have ET : Hid (∃ (ge ce : Nat), u14 = .slice (some ⟨ge, 0, none⟩) ns.length ce ∧ (∀ w', Below w6.heap.size w6 w' → ge < w'.heap.size ∧ ∀ i, i < ns.length → w'.cell? ⟨ge, i, none⟩ = some (.int .i64 ((jl (ns.take (i + 1))).length : Int)))) := by
            have h' := O6.out
            obtain ⟨_, ⟨_, hn⟩ | ⟨ge, ce, cur, e, _, hge, hce, _⟩⟩ := O6.out
            · omega
            · refine ⟨ge, ce, e, fun w' hw => ?_⟩
              have hlt := (Array.getElem?_eq_some_iff.1 hge).1
              refine ⟨Nat.lt_of_lt_of_le hlt hw.size, fun i hi => ?_⟩
              rw [e] at h'
              rw [hw.cell (by exact hlt), h'.cellAt i (by omega), endsOf_at ns hi]
          obtain ⟨ge, ce, rfl, hET⟩ := ET.out
          have HET := hide hET
          clear hET ET O6
          have HK1 := hide hkl1
          have HK2 := hide hkl2
          have HSN : Hid (∀ (c : UInt8) (tx : ByteArray), S.data.toList[P]? ≠ some c → tx.data.toList = S.data.toList.set P c ++ more.data.toList → notesAt tx kl = some (ns.take kl, (jl (ns.take kl)).length) ∧ nsz tx (jl (ns.take kl)).length = 0) := by
            intro c tx h1 h2
            rw [HSD.out] at h1 h2
            have e : (jl (ns.take kl)).length + (P - (jl (ns.take kl)).length) = P := by omega
            refine spoilt_notes HG.out hkl (j := P - (jl (ns.take kl)).length) (b := c) ?_ (by rw [e]; exact h1) (Y := more.data.toList) (by rw [e]; exact h2)
            have := congrArg List.length (jl_take ns kl hkl)
            rw [List.length_append, size_data] at this
            omega
          clear hkl1 hkl2
          go_wp2_with fail
          go_loopw [24] (fun i wq => ∃ j : Nat, j ≤ kl ∧ i = .int .i64 j ∧ Below w6.heap.size w6 wq) (fun i _ => kl - (intOf i).toNat)
          case atStart => exact ⟨0, Nat.zero_le _, rfl, Below.refl _ _⟩
          case round =>
            obtain ⟨j, hj, rfl, hnx⟩ := hrel
            obtain ⟨hgl, hcl⟩ := HET.out _ hnx
            have d1 := hcl j (by omega)
            have hjn : (j : Int) < (ns.length : Int) := by omega
            have hjl : (jl (ns.take (j + 1))).length ≤ 104857600 := Nat.le_trans (jl_len_take ns (j + 1)) (by omega)
            have HNX := hide hnx
            clear hcl hnx
            by_cases hjk : j < kl
            · have hE : ((jl (ns.take (j + 1))).length : Int) ≤ (P : Int) := by
                have := jl_mono ns (i := j + 1) (k := kl) hjk
                have := HK1.out
                omega
              go_wp2_with fail
              go_roundw
              case rel => exact ⟨j + 1, by omega, by go_num, HNX.out⟩
              case measure => simp [intOf]; omega
            · obtain rfl : j = kl := by omega
              have hE : ¬ ((jl (ns.take (j + 1))).length : Int) ≤ (P : Int) := by
                have := HK2.out
                omega
              have BQ := hide (B6.out.trans (HNX.out.mono B6.out.size))
              rcases Nat.eq_zero_or_pos j with hj0 | hj0
              · have d2 : True := trivial
                subst hj0
                have eZ : (jl (ns.take 0)).length = 0 := rfl
                rw [eZ] at HSN
                clear eZ
                go_wp2_with fail
                refine Calls.mono (SPA.out _) ?_
                rintro e' w7 ⟨t7, ch, rfl, ht7, hn7, b7⟩
                have B7 := hide (BQ.out.trans (b7.mono BQ.out.size))
                have ht7s : t7.size = S.size := by rw [← size_data, ht7, List.length_set, size_data]
                have NX := hide (HSN.out ch (t7 ++ more) hn7 (by rw [ba_app, ht7]))
                have hx7 : (t7 ++ more).size ≤ 1000000000000 := by rw [ByteArray.size_append]; omega
                have hcat7 : t7.size + more.size ≤ 140737488355328 := by omega
                clear b7 ht7 hn7 d2
                go_wp2_with fail
                refine Calls.mono (P1.out _ _ _ _ NX.out hx7 w7 B7.out) ?_
                rintro e' w8 ⟨v8, rfl, o8, b8⟩
                obtain ⟨a8, g8, c8, rfl, hc8, q1, q2, q3⟩ := own_notesO o8
                have B8 := hide (B7.out.trans (b8.mono B7.out.size))
                have hlt8 : (ns.take 0).length = 0 := by rw [List.length_take]; omega
                have SM := hide (sameNotes_o a8 ao g8 0 c8 b o cap (ns.take 0) w8 q1 (fun z => HAO.out hn0) q2 (fun z => (LW.out w8 B8.out hn0).2) (by omega) q3 ((LW.out w8 B8.out hn0).1.take 0))
                rw [hlt8] at SM hc8 ⊢
                have hjc : 0 ≤ cap := by omega
                clear b8 o8 q1 q2 q3 NX hx7 hlt8 B7
                go_wp2_with fail
                refine Calls.mono SM.out ?_
                rintro e' w9 ⟨rfl, b9⟩
                have B9 := hide (FIN.out _ (B8.out.trans (b9.mono B8.out.size)))
                clear b9 SM B8
                go_wp2_with fail
                go_ret
                exact ⟨rfl, B9.out⟩
              · have hj0' : (0 : Int) < (j : Int) := by omega
                have d2 := (HET.out _ HNX.out).2 (j - 1) (by omega)
                rw [show j - 1 + 1 = j by omega] at d2
                have hjm : (j : Int) - 1 < (ns.length : Int) := by omega
                generalize (jl (ns.take j)).length = Z at *
                go_wp2_with fail
                refine Calls.mono (SPA.out _) ?_
                rintro e' w7 ⟨t7, ch, rfl, ht7, hn7, b7⟩
                have B7 := hide (BQ.out.trans (b7.mono BQ.out.size))
                have ht7s : t7.size = S.size := by rw [← size_data, ht7, List.length_set, size_data]
                have NX := hide (HSN.out ch (t7 ++ more) hn7 (by rw [ba_app, ht7]))
                have hx7 : (t7 ++ more).size ≤ 1000000000000 := by rw [ByteArray.size_append]; omega
                have hcat7 : t7.size + more.size ≤ 140737488355328 := by omega
                clear b7 ht7 hn7 d2
                go_wp2_with fail
                refine Calls.mono (P1.out _ _ _ _ NX.out hx7 w7 B7.out) ?_
                rintro e' w8 ⟨v8, rfl, o8, b8⟩
                obtain ⟨a8, g8, c8, rfl, hc8, q1, q2, q3⟩ := own_notesO o8
                have B8 := hide (B7.out.trans (b8.mono B7.out.size))
                have hlt8 : (ns.take j).length = j := by rw [List.length_take]; omega
                have SM := hide (sameNotes_o a8 ao g8 0 c8 b o cap (ns.take j) w8 q1 (fun z => HAO.out hn0) q2 (fun z => (LW.out w8 B8.out hn0).2) (by omega) q3 ((LW.out w8 B8.out hn0).1.take j))
                rw [hlt8] at SM hc8 ⊢
                have hjc : j ≤ cap := by omega
                clear b8 o8 q1 q2 q3 NX hx7 hlt8 B7
                go_wp2_with fail
                refine Calls.mono SM.out ?_
                rintro e' w9 ⟨rfl, b9⟩
                have B9 := hide (FIN.out _ (B8.out.trans (b9.mono B8.out.size)))
                clear b9 SM B8
                go_wp2_with fail
                go_ret
                exact ⟨rfl, B9.out⟩
end Go.Proofs.YtbcpfekbnkkflaaDoor
namespace Go.Proofs.YtbcpfekbnkkflaaDoor
open Go.ChangeShapes Go.WideShapes Go.ChangeAt Go.RowKit Go.Deep
theorem cellsNote : Tryd.prog.cellsOf 23 = 4 := by kernel_rfl
theorem cells3O : Tryd.prog.cellsOf 3 = 1 := by kernel_rfl
theorem i64_of {n : Int} (h : (Lit.int .i64 n).wf = true) : I64 n := by
  simp [Lit.wf, IntKind.min, IntKind.max, IntKind.signed, IntKind.bits] at h
  unfold I64
  omega
theorem bulk_pos {H : Type} (d : DataW H) : 1 ≤ Rows.uptoBulk d := by
  cases d with
  | lit l => cases l <;> simp only [Rows.uptoBulk] <;> omega
  | _ => simp only [Rows.uptoBulk] <;> omega
theorem bulk_len {H α : Type} (l : List α) (f : α → DataW H) : l.length ≤ Rows.uptoBulkAll (l.map f) := by
  induction l with
  | nil => simp
  | cons a r ih =>
    have := bulk_pos (f a)
    simp only [List.map_cons, List.length_cons, Rows.uptoBulkAll]
    omega
set_option maxRecDepth 100000 in
/-- notes that are handed in -/
theorem open_notes {H : Type} {enc : TypeId × Value → H} {w : World} {base fuel : Nat} {v : Value} {x : DataW H × List MemPlace} (h : DataW.trod enc Tryd.prog w base (fun _ => true) true fuel 32 [v] = some x) (hlt : ∀ q ∈ x.2, q.block < w.heap.size) :
    ∃ (ns : List NV) (ao : Option Addr) (b o cap : Nat), v = .slice ao ns.length cap ∧ (0 < ns.length → ao = some ⟨b, o, none⟩) ∧ (0 < ns.length → b < w.heap.size) ∧ ns.length ≤ cap ∧ LiesO b o w ns ∧ (∀ n ∈ ns, nI n) ∧ ns.length ≤ Rows.uptoBulk x.1 := by
  rcases open_slice Tryd.underlying32 h with ⟨h0, _⟩ | ⟨a, len, cap, m, n, D, Pl, hv, hb, hl, hm, hmm, hx, hc⟩
  · simp only [List.cons.injEq, and_true] at h0
    exact ⟨[], none, 0, 0, 0, by rw [h0]; rfl, fun q => absurd q (by simp), fun q => absurd q (by simp), Nat.le_refl _, fun i hi => absurd hi (by simp), (fun n hn => (by cases hn)), Nat.zero_le _⟩
  · simp only [List.cons.injEq, and_true] at hv
    simp only [if_true] at hmm
    have each : ∀ i, i < len → ∃ q : NV, nI q ∧ w.cell? (a.add (i * 4)) = some (.int .i64 q.1) ∧ w.cell? (a.add (i * 4 + 1)) = some (.int .i64 q.2.1) ∧ w.cell? (a.add (i * 4 + 2)) = some (.int .i64 q.2.2.1) ∧ w.cell? (a.add (i * 4 + 3)) = some (.int .i64 q.2.2.2) := by
      intro i hi
      obtain ⟨cs', h1, h2⟩ := hc i (by omega)
      rw [cellsNote] at h1
      obtain ⟨_, hlen, hcell⟩ := World.cells?_some h1
      obtain ⟨xs, k, hk, hxy, _, hxl, hf⟩ := DataW.trod_struct Tryd.underlying23 h2
      match xs, hxl, cs', hlen with
      | [y0, y1, y2, y3], _, [v0, v1, v2, v3], _ =>
        have g0 := hf 0 _ rfl
        have g1 := hf 1 _ rfl
        have g2 := hf 2 _ rfl
        have g3 := hf 3 _ rfl
        simp [cells3O] at g0 g1 g2 g3
        have e0 := hcell 0 (by omega)
        have e1 := hcell 1 (by omega)
        have e2 := hcell 2 (by omega)
        have e3 := hcell 3 (by omega)
        rw [add_add] at e0 e1 e2 e3
        obtain ⟨s0, f0, _, w0⟩ := DataW.trod_int Tryd.underlying3 g0
        obtain ⟨s1, f1, _, w1⟩ := DataW.trod_int Tryd.underlying3 g1
        obtain ⟨s2, f2, _, w2⟩ := DataW.trod_int Tryd.underlying3 g2
        obtain ⟨s3, f3, _, w3⟩ := DataW.trod_int Tryd.underlying3 g3
        simp only [List.cons.injEq, and_true] at f0 f1 f2 f3
        subst f0 f1 f2 f3
        exact ⟨(s0, s1, s2, s3), ⟨i64_of w0, i64_of w1, i64_of w2, i64_of w3⟩, by simpa using e0, by simpa using e1, by simpa using e2, by simpa using e3⟩
    obtain ⟨q, hq⟩ := choose_lt each
    have hplen : ((List.range len).map q).length = len := by simp
    obtain ⟨b, off, spot⟩ := a
    have hspot : 0 < len → spot = none := fun h => by simpa [Addr.add] using World.cell?_spot (hq 0 h).2.1
    refine ⟨(List.range len).map q, some ⟨b, off, spot⟩, b, off, cap, by rw [hv, hplen], fun z => ?_, fun z => ?_, by rw [hplen]; omega, fun i hi => ?_, fun n hn => ?_, ?_⟩
    · rw [hplen] at z
      rw [hspot z]
    · rw [hplen] at z
      refine hlt (.cell b off) ?_
      rw [hx, cellsNote]
      exact List.mem_append_left _ (MemPlace.mem_row.2 ⟨0, by omega, by simp⟩)
    · rw [hplen] at hi
      obtain ⟨_, c0, c1, c2, c3⟩ := hq i hi
      have hs := hspot (by omega)
      subst hs
      rw [add_plain] at c0 c1 c2 c3
      rw [List.getElem_map, List.getElem_range, show off + i * 4 + 1 = off + (i * 4 + 1) by omega, show off + i * 4 + 2 = off + (i * 4 + 2) by omega, show off + i * 4 + 3 = off + (i * 4 + 3) by omega]
      exact ⟨c0, c1, c2, c3⟩
    · obtain ⟨i, hi, rfl⟩ := List.mem_map.1 hn
      exact (hq i (List.mem_range.1 hi)).1
    · rw [hplen, hx]
      have := bulk_len (List.range len) D
      rw [List.length_range] at this
      simp only [Rows.uptoBulk]
      omega
end Go.Proofs.YtbcpfekbnkkflaaDoor
