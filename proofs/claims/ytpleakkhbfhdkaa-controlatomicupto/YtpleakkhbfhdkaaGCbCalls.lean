import Derived.Test.YtpleakkhbfhdkaaGCbSend
namespace Go.Proofs.Ytpleakkhbfhdkaa.Cn
open Go.RowKit
theorem eqlN (p : Ph) (P : Nat) (w : World) : (binOp .eql 77 (.iface p.pt (.pointer (some ⟨P, 0, none⟩))) .nilIface).run Try.prog w = .ok (.bool false) w := by cases p <;> kernel_rfl
theorem neqN (p : Ph) (P : Nat) (w : World) : (binOp .neq 77 (.iface p.pt (.pointer (some ⟨P, 0, none⟩))) .nilIface).run Try.prog w = .ok (.bool true) w := by cases p <;> kernel_rfl
theorem eql0 (w : World) : (binOp .eql 77 .nilIface .nilIface).run Try.prog w = .ok (.bool true) w := by kernel_rfl
theorem neq0 (w : World) : (binOp .neq 77 .nilIface .nilIface).run Try.prog w = .ok (.bool false) w := by kernel_rfl
set_option maxHeartbeats 8000000 in
set_option maxRecDepth 100000 in
set_option linter.unusedSimpArgs false in
set_option linter.unusedVariables false in
theorem none_any {w : World} {S : Nat → Prop} {C : Nat} {c : Ct} (h : CtAt w S C c) (hn : 1 ≤ c.ru.n) :
    Calls Try.prog 34 #[.pointer (some ⟨C, 0, none⟩)] w fun e w' => e = .returned (.bool false) ∧ w = w' := by
  obtain ⟨P, A, hv, mv, h⟩ := h
  have c0 := h.cells.1
  have q0 : ((c.ru.n : Int) == 0) = false := by simp; omega
  have q1 : (c.ru.n == 0) = false := by simp; omega
  generalize c.ru.n = n at *
  clear h
  go_enter Try.func34, Try.ntmps34
  go_wp2_with fail
  go_ret
  exact ⟨rfl, rfl⟩
def rdyV (c : Ct) : Int := if c.ph.isSome then 0 else 151
set_option maxHeartbeats 8000000 in
set_option maxRecDepth 100000 in
set_option linter.unusedSimpArgs false in
set_option linter.unusedVariables false in
theorem ready_any {w : World} {S : Nat → Prop} {C : Nat} {c : Ct} (h : CtAt w S C c) (hn : 1 ≤ c.ru.n) :
    Calls Try.prog 33 #[.pointer (some ⟨C, 0, none⟩)] w fun e w' => e = .returned (.int .i64 (rdyV c)) ∧ w = w' := by
  have NO := hide (none_any h hn)
  obtain ⟨P, A, hv, mv, h⟩ := h
  have c5 := h.cells.2.2.2.2.2.1
  clear h
  unfold rdyV
  cases hp : c.ph with
  | none =>
    rw [hp] at c5
    change w.cell? ⟨C, 5, none⟩ = some .nilIface at c5
    have q := eql0
    clear hp
    go_enter Try.func33, Try.ntmps33
    go_wp2_with fail
    refine Calls.mono NO.out ?_
    rintro e W1 ⟨rfl, rfl⟩
    go_wp2_with fail
    go_ret
    exact ⟨rfl, rfl⟩
  | some x =>
    obtain ⟨p, r⟩ := x
    rw [hp] at c5
    change w.cell? ⟨C, 5, none⟩ = some (.iface p.pt (.pointer (some ⟨P, 0, none⟩))) at c5
    have q := eqlN p P
    generalize p.pt = pt at *
    clear hp
    go_enter Try.func33, Try.ntmps33
    go_wp2_with fail
    refine Calls.mono NO.out ?_
    rintro e W1 ⟨rfl, rfl⟩
    go_wp2_with fail
    go_ret
    exact ⟨rfl, rfl⟩
set_option maxHeartbeats 8000000 in
set_option maxRecDepth 100000 in
set_option linter.unusedSimpArgs false in
set_option linter.unusedVariables false in
theorem busy_any {w : World} {S : Nat → Prop} {C : Nat} {c : Ct} (h : CtAt w S C c) (hn : 1 ≤ c.ru.n) :
    Calls Try.prog 12 #[.pointer (some ⟨C, 0, none⟩)] w fun e w' => e = .returned (.bool c.ph.isSome) ∧ w = w' := by
  have RE := ready_any h hn
  unfold rdyV at RE
  generalize c.ph.isSome = b at *
  clear h
  cases b with
  | true =>
    have RE := hide RE
    go_enter Try.func12, Try.ntmps12
    go_wp2_with fail
    refine Calls.mono RE.out ?_
    rintro e W1 ⟨rfl, rfl⟩
    go_wp2_with fail
    go_ret
    exact ⟨rfl, rfl⟩
  | false =>
    have RE := hide RE
    go_enter Try.func12, Try.ntmps12
    go_wp2_with fail
    refine Calls.mono RE.out ?_
    rintro e W1 ⟨rfl, rfl⟩
    go_wp2_with fail
    go_ret
    exact ⟨rfl, rfl⟩
theorem Did.nil {w : World} {S : Nat → Prop} {C : Nat} {c : Ct} (h : CtAt w S C c) : Did w w S C c (.slice none 0 0) [] :=
  ⟨S, h, fun k e => Or.inl e, Kp.refl _ _, World.ownsRow_nil _ _ _ _, fun k hk => by simp [Value.ownBlock] at hk⟩
theorem Did.pre {w w1 w2 : World} {S : Nat → Prop} {C : Nat} {c : Ct} {v : Value} {L : List Mg} (hk : Kp w w1 S) (h : Did w1 w2 S C c v L) : Did w w2 S C c v L := by
  obtain ⟨S', h1, h2, h3, h4, h5⟩ := h
  refine ⟨S', h1, fun k e => ?_, hk.trans h3 (fun k e => Or.inl e), own_mono h4 hk.size, h5⟩
  rcases h2 k e with e | e
  · exact Or.inl e
  · exact Or.inr (Nat.le_trans hk.size e)
theorem Did.pre2 {w w1 w2 : World} {S S1 : Nat → Prop} {C : Nat} {c : Ct} {v : Value} {L : List Mg} (hk : Kp w w1 S) (hs : ∀ k, S1 k → S k ∨ w.heap.size ≤ k) (h : Did w1 w2 S1 C c v L) : Did w w2 S C c v L := by
  obtain ⟨S', h1, h2, h3, h4, h5⟩ := h
  refine ⟨S', h1, fun k e => ?_, hk.trans h3 hs, own_mono h4 hk.size, h5⟩
  rcases h2 k e with e | e
  · exact hs k e
  · exact Or.inr (Nat.le_trans hk.size e)
theorem follow_any' {w : World} {S : Nat → Prop} {C : Nat} {c : Ct} (h : CtAt w S C c) {p : Ph} {r : Rd} (hp : c.ph = some (p, r)) (n1 : 1 ≤ c.ru.n) (n16 : c.ru.n ≤ 16) (s0 : 0 ≤ r.sd) (s1 : r.sd ≤ 1000000000000000) (v : Int) (h0 : 0 ≤ v) (h6 : v ≤ 6) :
    Calls Try.prog 39 #[.pointer (some ⟨C, 0, none⟩), .int .i64 v] w fun e w' => ∃ lv, e = .returned lv ∧ Did w w' S C (folC c p r v) lv (folL c p r v) := by
  have hv : v = 0 ∨ v = 1 ∨ v = 2 ∨ v = 3 ∨ v = 4 ∨ v = 5 ∨ v = 6 := by omega
  rcases hv with rfl | rfl | rfl | rfl | rfl | rfl | rfl
  · exact follow_0 h
  · exact follow_1 h hp n16 s0 s1
  · exact follow_2 h hp n1 n16
  · exact follow_3 h hp n1 n16
  · exact follow_4 h hp n1 n16
  · exact follow_5 h hp n1 n16
  · exact follow_6 h hp n1 n16
theorem tickV_in (p : Ph) (u : Ru) (r : Rd) : 0 ≤ tickV p u r ∧ tickV p u r ≤ 6 := by
  cases p <;> simp only [tickV, ftkV, paceV] <;> (repeat' split) <;> omega
def tkR (r : Rd) : Rd := { r with tk := r.tk + 1 }
set_option maxHeartbeats 8000000 in
set_option maxRecDepth 100000 in
set_option linter.unusedSimpArgs false in
set_option linter.unusedVariables false in
theorem Tick_idle {w : World} {S : Nat → Prop} {C : Nat} {c : Ct} (h : CtAt w S C c) (hn : 1 ≤ c.ru.n) (hp : c.ph = none) :
    Calls Try.prog 19 #[.pointer (some ⟨C, 0, none⟩)] w fun e w' => e = .returned (.tuple #[.slice none 0 0, .int .i64 0]) ∧ Below w.heap.size w w' := by
  have RE := ready_any h hn
  unfold rdyV at RE
  rw [hp] at RE
  have RE : Hid (Calls Try.prog 33 #[.pointer (some ⟨C, 0, none⟩)] w fun e w' => e = .returned (.int .i64 151) ∧ w = w') := RE
  clear h hp
  go_enter Try.func19, Try.ntmps19
  go_wp2_with fail
  refine Calls.mono RE.out ?_
  rintro e W1 ⟨rfl, rfl⟩
  go_wp2_with fail
  go_ret2
  exact ⟨rfl, Below.refl _ _⟩
set_option maxHeartbeats 8000000 in
set_option maxRecDepth 100000 in
set_option linter.unusedSimpArgs false in
set_option linter.unusedVariables false in
theorem Stop_idle {w : World} {S : Nat → Prop} {C : Nat} {c : Ct} (h : CtAt w S C c) (hn : 1 ≤ c.ru.n) (hp : c.ph = none) :
    Calls Try.prog 21 #[.pointer (some ⟨C, 0, none⟩)] w fun e w' => e = .returned (.tuple #[.slice none 0 0, .int .i64 151]) ∧ Below w.heap.size w w' := by
  have RE := ready_any h hn
  unfold rdyV at RE
  rw [hp] at RE
  have RE : Hid (Calls Try.prog 33 #[.pointer (some ⟨C, 0, none⟩)] w fun e w' => e = .returned (.int .i64 151) ∧ w = w') := RE
  clear h hp
  go_enter Try.func21, Try.ntmps21
  go_wp2_with fail
  refine Calls.mono RE.out ?_
  rintro e W1 ⟨rfl, rfl⟩
  go_wp2_with fail
  go_ret2
  exact ⟨rfl, Below.refl _ _⟩
set_option maxHeartbeats 8000000 in
set_option maxRecDepth 100000 in
set_option linter.unusedSimpArgs false in
set_option linter.unusedVariables false in
theorem Revive_idle {w : World} {S : Nat → Prop} {C : Nat} {c : Ct} (h : CtAt w S C c) (hn : 1 ≤ c.ru.n) (hp : c.ph = none) :
    Calls Try.prog 22 #[.pointer (some ⟨C, 0, none⟩)] w fun e w' => e = .returned (.tuple #[.slice none 0 0, .int .i64 151]) ∧ Below w.heap.size w w' := by
  have RE := ready_any h hn
  unfold rdyV at RE
  rw [hp] at RE
  have RE : Hid (Calls Try.prog 33 #[.pointer (some ⟨C, 0, none⟩)] w fun e w' => e = .returned (.int .i64 151) ∧ w = w') := RE
  clear h hp
  go_enter Try.func22, Try.ntmps22
  go_wp2_with fail
  refine Calls.mono RE.out ?_
  rintro e W1 ⟨rfl, rfl⟩
  go_wp2_with fail
  go_ret2
  exact ⟨rfl, Below.refl _ _⟩
set_option maxHeartbeats 8000000 in
set_option maxRecDepth 100000 in
set_option linter.unusedSimpArgs false in
set_option linter.unusedVariables false in
theorem Tick_busy {w : World} {S : Nat → Prop} {C : Nat} {c : Ct} (h : CtAt w S C c) (ok : c.ok) {p : Ph} {r : Rd} (hp : c.ph = some (p, r)) :
    Calls Try.prog 19 #[.pointer (some ⟨C, 0, none⟩)] w fun e w' => ∃ lv, e = .returned (.tuple #[lv, .int .i64 0]) ∧ Did w w' S C (folC { c with ph := some (p, tkR r) } p (tkR r) (tickV p c.ru r)) lv (folL { c with ph := some (p, tkR r) } p (tkR r) (tickV p c.ru r)) := by
  have RE := ready_any h ok.n1
  unfold rdyV at RE
  rw [hp] at RE
  have RE : Hid (Calls Try.prog 33 #[.pointer (some ⟨C, 0, none⟩)] w fun e w' => e = .returned (.int .i64 0) ∧ w = w') := RE
  obtain ⟨P, A, hv, mv, h⟩ := h
  have c5 : w.cell? ⟨C, 5, none⟩ = some (.iface p.pt (.pointer (some ⟨P, 0, none⟩))) := by
    have c5 := h.cells.2.2.2.2.2.1
    rw [hp] at c5
    exact c5
  have Q1 := mth_tick p P
  have E1 := ent_tick p
  have HX := hide h
  have HP := hide hp
  have OK := hide ok
  have TK := hide (tick_ph p (h.rd p r hp) (ok.rd p r hp).1 (ok.rd p r hp).2.1 ok.rs1 ok.rs2)
  have TV := tickV_in p c.ru r
  obtain ⟨tv, htv⟩ : ∃ tv, tv = tickV p c.ru r := ⟨_, rfl⟩
  rw [← htv] at TK TV ⊢
  have HTV := hide htv
  have HT2 : Hid (r.tk + 1 ≤ 1000000000000000 ∨ ¬ r.tk + 1 ≤ 1000000000000000) := Classical.em _
  clear htv
  generalize p.pt = pt at *
  generalize f_tick p = fm at *
  clear h hp ok
  go_enter Try.func19, Try.ntmps19
  go_wp2_with fail
  refine Calls.mono RE.out ?_
  rintro e W0 ⟨rfl, rfl⟩
  clear RE
  go_wp2_with fail
  refine Calls.mono TK.out ?_
  rintro e W1 ⟨rfl, hr, hk⟩
  have X1 : CtAt W1 S C { c with ph := some (p, tkR r) } := ⟨P, A, hv, mv, HX.out.setR HP.out hr (hk.mono (fun k e => Or.inl e))⟩
  have K1 : Hid (Kp w W1 S) := hk.mono (fun k e => by rw [e]; exact (HX.out.sP (by rw [HP.out]; simp)).1)
  have FO := hide (follow_any' X1 (p := p) (r := tkR r) rfl OK.out.n1 OK.out.n16 (OK.out.rd p r HP.out).2.2.1 (OK.out.rd p r HP.out).2.2.2 tv TV.1 TV.2)
  clear X1 hr hk TK c5 Q1 E1
  go_wp2_with fail
  refine Calls.mono FO.out ?_
  rintro e W2 ⟨lv, rfl, di⟩
  have DI := hide (Did.pre K1.out di)
  clear di
  clear FO
  go_wp2_with fail
  go_ret2
  exact ⟨lv, rfl, DI.out⟩
set_option maxHeartbeats 8000000 in
set_option maxRecDepth 100000 in
set_option linter.unusedSimpArgs false in
set_option linter.unusedVariables false in
theorem Stop_busy {w : World} {S : Nat → Prop} {C : Nat} {c : Ct} (h : CtAt w S C c) (ok : c.ok) {p : Ph} {r : Rd} (hp : c.ph = some (p, r)) :
    Calls Try.prog 21 #[.pointer (some ⟨C, 0, none⟩)] w fun e w' => ∃ lv, e = .returned (.tuple #[lv, .int .i64 0]) ∧ Did w w' S C (folC c p r (stpV p)) lv (folL c p r (stpV p)) := by
  have RE := ready_any h ok.n1
  unfold rdyV at RE
  rw [hp] at RE
  have RE : Hid (Calls Try.prog 33 #[.pointer (some ⟨C, 0, none⟩)] w fun e w' => e = .returned (.int .i64 0) ∧ w = w') := RE
  obtain ⟨P, A, hv, mv, h⟩ := h
  have c5 : w.cell? ⟨C, 5, none⟩ = some (.iface p.pt (.pointer (some ⟨P, 0, none⟩))) := by
    have c5 := h.cells.2.2.2.2.2.1
    rw [hp] at c5
    exact c5
  have Q1 := mth_stopped p P
  have E1 := ent_stopped p
  have HX := hide h
  have HP := hide hp
  have OK := hide ok
  have ST := hide (stopped_ph p P w)
  have FO := hide (follow_any ⟨P, A, hv, mv, h⟩ hp ok (stpV p) (by cases p <;> simp [stpV]) (by cases p <;> simp [stpV]))
  generalize stpV p = sv at *
  generalize p.pt = pt at *
  generalize f_stopped p = fm at *
  clear h hp ok
  go_enter Try.func21, Try.ntmps21
  go_wp2_with fail
  refine Calls.mono RE.out ?_
  rintro e W0 ⟨rfl, rfl⟩
  clear RE
  go_wp2_with fail
  refine Calls.mono ST.out ?_
  rintro e W1 ⟨rfl, rfl⟩
  clear ST c5 Q1 E1
  go_wp2_with fail
  refine Calls.mono FO.out ?_
  rintro e W2 ⟨lv, rfl, di⟩
  have DI := hide di
  clear di
  clear FO
  go_wp2_with fail
  go_ret2
  exact ⟨lv, rfl, DI.out⟩
def rvC (c : Ct) (p : Ph) (r : Rd) : Ct :=
  match p with
  | .look => endC c (rd0 c.ru r.num r.kind r.ver) 3
  | _ => entP c .back (rd0 c.ru r.num r.kind r.ver)
def rvL (c : Ct) (p : Ph) (r : Rd) : List Mg :=
  match p with
  | .look => []
  | _ => entL .back (rd0 c.ru r.num r.kind r.ver)
def revV : Ph → Int
  | .look => 6
  | _ => 3
set_option maxHeartbeats 8000000 in
set_option maxRecDepth 100000 in
set_option linter.unusedSimpArgs false in
set_option linter.unusedVariables false in
theorem rev_look {w : World} {P A : Nat} {u : Ru} {r : Rd} (h : RdAt w P A 126 u r) (h1 : 1 ≤ u.n) (h16 : u.n ≤ 16) :
    Calls Try.prog 117 #[.pointer (some ⟨P, 0, none⟩)] w fun e w' => e = .returned (.int .i64 6) ∧ ∃ A', w.heap.size ≤ A' ∧ RdAt w' P A' 126 u (rd0 u r.num r.kind r.ver) ∧ Kp w w' (fun k => k = P) := by
  have AN := hide (anew_any h h1 h16)
  have HX := hide h
  clear h
  go_enter Try.func117, Try.ntmps117
  go_wp2_with fail
  refine Calls.mono AN.out ?_
  rintro e W1 ⟨A', rfl, hA, hle, hb⟩
  have r1 := HX.out.below hb
  obtain ⟨W2, hW2⟩ : ∃ W2, W2 = W1.setRow P (rdA u (rd0 u r.num r.kind r.ver) A') := ⟨_, rfl⟩
  have R2 : Hid (RdAt W2 P A' 126 u (rd0 u r.num r.kind r.ver)) := by
    have hne : P ≠ A' := fun e => by have := blk_lt HX.out.ob; omega
    rw [hW2]
    exact ⟨setRow_heap _ _ _ _ _ _ r1.ob, (setRow_other _ _ _ _ (fun e => hne e.symm)).trans hA, by simp [rd0], hne⟩
  have K2 : Hid (Kp w W2 (fun k => k = P)) := by rw [hW2]; exact (Kp.of_below hb (fun k => k = P)).row (Or.inl rfl) _
  have O1 := hide r1.ob
  have HL := hide hle
  replace hW2 := hide hW2
  clear hA hle hb r1 AN HX
  go_upto_region 2 with (refine wpList_stR rfl 86 (.tmp 9) (.tmp 7) rfl P rfl (rdA u (rd0 u r.num r.kind r.ver) A') _ rfl _ O1.out rd_info rfl (rd_one _ _ _) ?_)
  rw [← hW2.out]
  clear hW2
  go_wp2_with fail
  go_ret
  exact ⟨rfl, A', HL.out, R2.out, K2.out⟩
set_option maxRecDepth 100000 in
theorem rev_any (P : Nat) (w : World) : Calls Try.prog 97 #[.pointer (some ⟨P, 0, none⟩)] w fun e w' => e = .returned (.int .i64 3) ∧ w = w' := by
  go_enter Try.func97, Try.ntmps97
  go_wp2_with fail
  go_ret
  exact ⟨rfl, rfl⟩
theorem CtX.setR2 {w w' : World} {S : Nat → Prop} {C P A A' : Nat} {hv mv : Value} {c : Ct} {p : Ph} {r r' : Rd} (h : CtX w S C P A hv mv c) (hp : c.ph = some (p, r)) (hr : RdAt w' P A' p.ty c.ru r') (hk : Kp w w' (fun k => k = P)) : CtX w' (fun k => S k ∨ k = A') C P A' hv mv { c with ph := some (p, r') } := by
  have rd := h.rd p r hp
  have ho := getL hk h.ob (fun e => h.ne_P hp e)
  refine ⟨?_, fun p' r'' e => ?_, own_kp h.hs hk (fun k hk' e => ?_), own_kp h.ms hk (fun k hk' e => ?_), Or.inl h.sC, fun _ => ⟨Or.inl (h.sP (by rw [hp]; simp)).1, Or.inr rfl⟩, fun k e => Or.inl (h.sH k e), fun k e => Or.inl (h.sM k e), fun k hs => ?_⟩
  · rw [ho]
    simp only [ctA, phV, hp]
  · simp only [Option.some.injEq, Prod.mk.injEq] at e
    obtain ⟨rfl, rfl⟩ := e
    exact hr
  · exact row_type h.hs rd.ob (by cases p <;> simp [Ph.ty]) k hk' e
  · exact row_type h.ms rd.ob (by cases p <;> simp [Ph.ty]) k hk' e
  · rcases hs with hs | hs
    · exact Nat.lt_of_lt_of_le (h.lt k hs) hk.size
    · rw [hs]; exact blk_lt hr.an
theorem revived_ph (p : Ph) {w : World} {S : Nat → Prop} {C P A : Nat} {hv mv : Value} {c : Ct} {r : Rd} (h : CtX w S C P A hv mv c) (hp : c.ph = some (p, r)) (ok : c.ok) :
    Calls Try.prog (f_revived p) #[.pointer (some ⟨P, 0, none⟩)] w fun e w' => e = .returned (.int .i64 (revV p)) ∧ ∃ S' c1 r1, CtAt w' S' C c1 ∧ c1.ph = some (p, r1) ∧ c1.ok ∧ (∀ k, S' k → S k ∨ w.heap.size ≤ k) ∧ Kp w w' S ∧ folC c1 p r1 (revV p) = rvC c p r ∧ folL c1 p r1 (revV p) = rvL c p r := by
  have o := ok.rd p r hp
  cases p
  case look =>
    refine Calls.mono (rev_look (h.rd _ r hp) ok.n1 ok.n16) ?_
    rintro e w' ⟨rfl, A', hA, hr, hk⟩
    refine ⟨rfl, _, _, _, ⟨P, A', hv, mv, h.setR2 hp hr hk⟩, rfl, ⟨ok.n1, ok.n16, ok.rs1, ok.rs2, fun p' r' e => ?_⟩, fun k e => ?_, hk.mono (fun k e => by rw [e]; exact (h.sP (by rw [hp]; simp)).1), rfl, rfl⟩
    · simp only [Option.some.injEq, Prod.mk.injEq] at e
      obtain ⟨rfl, rfl⟩ := e
      simp [rd0]
    · rcases e with e | e
      · exact Or.inl e
      · exact Or.inr (by rw [e]; exact hA)
  case fetch =>
    refine Calls.mono (rev_any P w) ?_
    rintro e w' ⟨rfl, rfl⟩
    exact ⟨rfl, S, c, r, ⟨P, A, hv, mv, h⟩, hp, ok, fun k e => Or.inl e, Kp.refl _ _, rfl, rfl⟩
  case swap =>
    refine Calls.mono (rev_any P w) ?_
    rintro e w' ⟨rfl, rfl⟩
    exact ⟨rfl, S, c, r, ⟨P, A, hv, mv, h⟩, hp, ok, fun k e => Or.inl e, Kp.refl _ _, rfl, rfl⟩
  case back =>
    refine Calls.mono (rev_any P w) ?_
    rintro e w' ⟨rfl, rfl⟩
    exact ⟨rfl, S, c, r, ⟨P, A, hv, mv, h⟩, hp, ok, fun k e => Or.inl e, Kp.refl _ _, rfl, rfl⟩
set_option maxHeartbeats 8000000 in
set_option maxRecDepth 100000 in
set_option linter.unusedSimpArgs false in
set_option linter.unusedVariables false in
theorem Revive_busy {w : World} {S : Nat → Prop} {C : Nat} {c : Ct} (h : CtAt w S C c) (ok : c.ok) {p : Ph} {r : Rd} (hp : c.ph = some (p, r)) :
    Calls Try.prog 22 #[.pointer (some ⟨C, 0, none⟩)] w fun e w' => ∃ lv, e = .returned (.tuple #[lv, .int .i64 0]) ∧ Did w w' S C (rvC c p r) lv (rvL c p r) := by
  have RE := ready_any h ok.n1
  unfold rdyV at RE
  rw [hp] at RE
  have RE : Hid (Calls Try.prog 33 #[.pointer (some ⟨C, 0, none⟩)] w fun e w' => e = .returned (.int .i64 0) ∧ w = w') := RE
  obtain ⟨P, A, hv, mv, h⟩ := h
  have c5 : w.cell? ⟨C, 5, none⟩ = some (.iface p.pt (.pointer (some ⟨P, 0, none⟩))) := by
    have c5 := h.cells.2.2.2.2.2.1
    rw [hp] at c5
    exact c5
  have Q1 := mth_revived p P
  have E1 := ent_revived p
  have HX := hide h
  have HP := hide hp
  have OK := hide ok
  have RV := hide (revived_ph p h hp ok)
  have VV : Hid (0 ≤ revV p ∧ revV p ≤ 6) := by cases p <;> simp [Hid, revV]
  generalize revV p = sv at *
  generalize p.pt = pt at *
  generalize f_revived p = fm at *
  clear h hp ok
  go_enter Try.func22, Try.ntmps22
  go_wp2_with fail
  refine Calls.mono RE.out ?_
  rintro e W0 ⟨rfl, rfl⟩
  clear RE
  go_wp2_with fail
  refine Calls.mono RV.out ?_
  rintro e W1 ⟨rfl, S', c1, r1, x1, hp1, ok1, hs1, k1, e1, e2⟩
  have FO := hide (follow_any x1 hp1 ok1 sv VV.out.1 VV.out.2)
  rw [e1, e2] at FO
  have HS := hide hs1
  have K1 := hide k1
  clear RV c5 Q1 E1 x1 hp1 ok1 hs1 k1 e1 e2
  go_wp2_with fail
  refine Calls.mono FO.out ?_
  rintro e W2 ⟨lv, rfl, di⟩
  have DI := hide (Did.pre2 K1.out HS.out di)
  clear di
  clear FO
  go_wp2_with fail
  go_ret2
  exact ⟨lv, rfl, DI.out⟩
end Go.Proofs.Ytpleakkhbfhdkaa.Cn
namespace Go.Proofs.Ytpleakkhbfhdkaa.Cn
open Go.RowKit
def ntR (r : Rd) (m : Mg) : Rd := { r with al := r.al.set m.fr.toNat (true, m.ver) }
theorem cnt_fr {p : Ph} {u : Ru} {r : Rd} {m : Mg} (h : cntP p u r m = true) : 0 ≤ m.fr ∧ m.fr < (u.n : Int) := by
  have h2 : ∃ k, dueP u r k m = true := by
    cases p <;> simp only [cntP, Bool.and_eq_true] at h
    · exact ⟨_, h.1⟩
    · exact ⟨_, h.1⟩
    · exact ⟨_, h.1⟩
    · exact ⟨_, h⟩
  obtain ⟨k, h2⟩ := h2
  simp only [dueP, Bool.and_eq_true, decide_eq_true_eq] at h2
  exact ⟨h2.2.2.1, h2.2.2.2.1⟩
set_option maxHeartbeats 8000000 in
set_option maxRecDepth 100000 in
set_option linter.unusedSimpArgs false in
set_option linter.unusedVariables false in
theorem Take_idle {w : World} {S : Nat → Prop} {C : Nat} {c : Ct} (h : CtAt w S C c) (hn : 1 ≤ c.ru.n) (hp : c.ph = none) (m : Mg) :
    Calls Try.prog 20 #[.pointer (some ⟨C, 0, none⟩), .agg (mgV m)] w fun e w' => e = .returned (.tuple #[.slice none 0 0, .int .i64 0]) ∧ Below w.heap.size w w' := by
  obtain ⟨W0, hW0⟩ : ∃ W0, W0 = w.alloc (.cells (mgV m) 44) := ⟨_, rfl⟩
  have b0 : Hid (Below w.heap.size w W0) := by rw [hW0]; exact (Below.refl _ w).alloc (Nat.le_refl _) _
  have RE := ready_any (h.below b0.out) hn
  unfold rdyV at RE
  rw [hp] at RE
  have RE : Hid (Calls Try.prog 33 #[.pointer (some ⟨C, 0, none⟩)] W0 fun e w' => e = .returned (.int .i64 151) ∧ W0 = w') := RE
  clear h hp
  go_enter Try.func20, Try.ntmps20
  go_upto_region 1 with fail
  rw [← hW0]
  clear hW0
  go_wp2_with fail
  refine Calls.mono RE.out ?_
  rintro e W1 ⟨rfl, rfl⟩
  go_upto_region 4 with fail
  go_quiet (fail)
  go_wp2_with fail
  go_ret2
  exact ⟨rfl, below_drewN b0.out _⟩
def takC (c : Ct) (p : Ph) (r : Rd) (m : Mg) : Ct :=
  if cntP p c.ru r m = true then (if m.code = 0 then (if (miss (ntR r m).al).length = 0 then folC { c with ph := some (p, ntR r m) } p (ntR r m) (comV p) else { c with ph := some (p, ntR r m) }) else folC c p r (refV p)) else c
def takL (c : Ct) (p : Ph) (r : Rd) (m : Mg) : List Mg :=
  if cntP p c.ru r m = true then (if m.code = 0 then (if (miss (ntR r m).al).length = 0 then folL { c with ph := some (p, ntR r m) } p (ntR r m) (comV p) else []) else folL c p r (refV p)) else []
set_option maxHeartbeats 8000000 in
set_option maxRecDepth 100000 in
set_option linter.unusedSimpArgs false in
set_option linter.unusedVariables false in
theorem Take_busy {w : World} {S : Nat → Prop} {C : Nat} {c : Ct} (h : CtAt w S C c) (ok : c.ok) {p : Ph} {r : Rd} (hp : c.ph = some (p, r)) (m : Mg) :
    Calls Try.prog 20 #[.pointer (some ⟨C, 0, none⟩), .agg (mgV m)] w fun e w' => ∃ lv, e = .returned (.tuple #[lv, .int .i64 0]) ∧ Did w w' S C (takC c p r m) lv (takL c p r m) := by
  obtain ⟨B, hB⟩ : ∃ B, B = w.heap.size := ⟨_, rfl⟩
  obtain ⟨W0, hW0⟩ : ∃ W0, W0 = w.alloc (.cells (mgV m) 44) := ⟨_, rfl⟩
  have b0 : Hid (Below w.heap.size w W0) := by rw [hW0]; exact (Below.refl _ w).alloc (Nat.le_refl _) _
  have m0 : Hid (MgAt W0 B m) := by rw [hW0, hB]; exact MgAt.new w m
  have RE := ready_any (h.below b0.out) ok.n1
  unfold rdyV at RE
  rw [hp] at RE
  have RE : Hid (Calls Try.prog 33 #[.pointer (some ⟨C, 0, none⟩)] W0 fun e w' => e = .returned (.int .i64 0) ∧ W0 = w') := RE
  have LT := hide h.lt
  obtain ⟨P, A, hv, mv, h0⟩ := h.below b0.out
  have c5 : Hid (W0.cell? ⟨C, 5, none⟩ = some (.iface p.pt (.pointer (some ⟨P, 0, none⟩)))) := by
    have c5 := h0.cells.2.2.2.2.2.1
    rw [hp] at c5
    exact c5
  have HX := hide h0
  have HP := hide hp
  have OK := hide ok
  have HB := hide hB
  have D0 : Below W0.heap.size W0 W0.drew := ⟨rfl, rfl, rfl, Nat.le_refl _, fun _ _ => rfl⟩
  have CN := hide (counts_ph p ((h0.rd p r hp).below D0) ok.n16 m)
  have Q1 := mth_counts p P
  have Q2 := mth_refused p P
  have Q3 := mth_note p P
  have Q4 := mth_missing p P
  have Q5 := mth_complete p P
  have E1 := ent_counts p
  have E2 := ent_refused p
  have E5 := ent_complete p
  have RF := hide (refused_ph p P)
  have CO := hide (complete_ph p P)
  have RV : Hid (0 ≤ refV p ∧ refV p ≤ 6) := by cases p <;> simp [Hid, refV]
  have CV : Hid (0 ≤ comV p ∧ comV p ≤ 6) := by cases p <;> simp [Hid, comV]
  have F : Hid (∀ X : World, (X.heap[C]? = W0.heap[C]? ∧ X.heap[B]? = W0.heap[B]?) → X.cell? ⟨C, 5, none⟩ = some (.iface p.pt (.pointer (some ⟨P, 0, none⟩))) ∧ MgAt X B m) := fun X hX => by
    have x5 := c5.out
    refine ⟨?_, hX.2.trans m0.out⟩
    unfold World.cell? at *
    rw [hX.1]
    exact x5
  obtain ⟨d, hd⟩ : ∃ d, d = cntP p c.ru r m := ⟨_, rfl⟩
  have HD := hide hd
  have TC : Hid (takC c p r m = if d = true then (if m.code = 0 then (if (miss (ntR r m).al).length = 0 then folC { c with ph := some (p, ntR r m) } p (ntR r m) (comV p) else { c with ph := some (p, ntR r m) }) else folC c p r (refV p)) else c) := by rw [hd]; rfl
  have TL : Hid (takL c p r m = if d = true then (if m.code = 0 then (if (miss (ntR r m).al).length = 0 then folL { c with ph := some (p, ntR r m) } p (ntR r m) (comV p) else []) else folL c p r (refV p)) else []) := by rw [hd]; rfl
  rw [← hd] at CN
  generalize takC c p r m = tc at *
  generalize takL c p r m = tl at *
  obtain ⟨rfv, hrf⟩ : ∃ x, x = refV p := ⟨_, rfl⟩
  obtain ⟨cmv, hcm⟩ : ∃ x, x = comV p := ⟨_, rfl⟩
  rw [← hrf] at RF RV TC TL
  rw [← hcm] at CO CV TC TL
  generalize f_counts p = fc at *
  generalize f_refused p = fr at *
  generalize f_complete p = fo at *
  generalize p.pt = pt at *
  clear h h0 hp ok hd hrf hcm
  go_enter Try.func20, Try.ntmps20
  go_upto_region 1 with fail
  rw [← hW0, ← HB.out]
  clear hW0 hB
  go_wp2_with fail
  refine Calls.mono RE.out ?_
  rintro e W1 ⟨rfl, rfl⟩
  clear RE
  go_upto_region 4 with fail
  refine wp_region_held_drew (S := fun X => X.heap[C]? = W0.heap[C]? ∧ X.heap[B]? = W0.heap[B]?) (by kernel_rfl) ⟨rfl, rfl⟩ (fun hHeld => ?_)
  refine wpAnyH_take (i := 0) (v := (.int .i64 0)) rfl (by kernel_rfl) (by kernel_rfl) (by kernel_rfl) (fun _ _ _ h => h) (Or.inl ⟨by kernel_rfl, ?_⟩) (by assumption) ?_
  · intro w' hSw
    (try dsimp only at hSw)
    go_simp
  (try simp only [Act.put, List.getElem_toArray, List.getElem_cons_zero, List.getElem_cons_succ, List.setIfInBounds_toArray, List.set_cons_zero, List.set_cons_succ])
  refine wpAnyH_take (i := 1) (v := (.bool false)) rfl (by kernel_rfl) (by kernel_rfl) (by kernel_rfl) (fun _ _ _ h => h) (Or.inl ⟨by kernel_rfl, ?_⟩) (by assumption) ?_
  · intro w' hSw
    (try dsimp only at hSw)
    go_simp
  (try simp only [Act.put, List.getElem_toArray, List.getElem_cons_zero, List.getElem_cons_succ, List.setIfInBounds_toArray, List.set_cons_zero, List.set_cons_succ])
  refine wpAnyH_take (i := 2) (v := (.bool false)) rfl (by kernel_rfl) (by kernel_rfl) (by kernel_rfl) (fun _ _ _ h => h) (Or.inl ⟨by kernel_rfl, ?_⟩) (by assumption) ?_
  · intro w' hSw
    (try dsimp only at hSw)
    go_simp
  (try simp only [Act.put, List.getElem_toArray, List.getElem_cons_zero, List.getElem_cons_succ, List.setIfInBounds_toArray, List.set_cons_zero, List.set_cons_succ])
  refine wpAnyH_take (i := 3) (v := (.pointer (some ⟨C, 0, none⟩))) rfl (by kernel_rfl) (by kernel_rfl) (by kernel_rfl) (fun _ _ _ h => h) (Or.inl ⟨by kernel_rfl, ?_⟩) (by assumption) ?_
  · intro w' hSw
    (try dsimp only at hSw)
    go_simp
  (try simp only [Act.put, List.getElem_toArray, List.getElem_cons_zero, List.getElem_cons_succ, List.setIfInBounds_toArray, List.set_cons_zero, List.set_cons_succ])
  refine wpAnyH_take (i := 4) (v := (.pointer (some ⟨C, 0, none⟩))) rfl (by kernel_rfl) (by kernel_rfl) (by kernel_rfl) (fun _ _ _ h => h) (Or.inl ⟨by kernel_rfl, ?_⟩) (by assumption) ?_
  · intro w' hSw
    (try dsimp only at hSw)
    go_simp
  (try simp only [Act.put, List.getElem_toArray, List.getElem_cons_zero, List.getElem_cons_succ, List.setIfInBounds_toArray, List.set_cons_zero, List.set_cons_succ])
  refine wpAnyH_take (i := 5) (v := (.pointer (some ⟨C, 5, none⟩))) rfl (by kernel_rfl) (by kernel_rfl) (by kernel_rfl) (fun _ _ _ h => h) (Or.inl ⟨by kernel_rfl, ?_⟩) (by assumption) ?_
  · intro w' hSw
    (try dsimp only at hSw)
    go_simp
  (try simp only [Act.put, List.getElem_toArray, List.getElem_cons_zero, List.getElem_cons_succ, List.setIfInBounds_toArray, List.set_cons_zero, List.set_cons_succ])
  refine wpAnyH_take (i := 6) (v := (.iface pt (.pointer (some ⟨P, 0, none⟩)))) rfl (by kernel_rfl) (by kernel_rfl) (by kernel_rfl) (fun _ _ _ h => h) (Or.inl ⟨by kernel_rfl, ?_⟩) (by assumption) ?_
  · intro w' hSw
    (try dsimp only at hSw)
    (have z := (F.out _ hSw).1; go_simp)
  (try simp only [Act.put, List.getElem_toArray, List.getElem_cons_zero, List.getElem_cons_succ, List.setIfInBounds_toArray, List.set_cons_zero, List.set_cons_succ])
  refine wpAnyH_take (i := 7) (v := (.agg (mgV m))) rfl (by kernel_rfl) (by kernel_rfl) (by kernel_rfl) (fun _ _ _ h => h) (Or.inl ⟨by kernel_rfl, ?_⟩) (by assumption) ?_
  · intro w' hSw
    (try dsimp only at hSw)
    (exact exec_ldR 44 (.tmp 3) rfl rfl _ (F.out _ hSw).2 Try.underlying44 mg_info)
  (try simp only [Act.put, List.getElem_toArray, List.getElem_cons_zero, List.getElem_cons_succ, List.setIfInBounds_toArray, List.set_cons_zero, List.set_cons_succ])
  refine wpAnyH_ready (rs := [8]) (by kernel_rfl) (by simp) ?_
  refine AllReadyH.cons rfl (fun K hK => ?_) AllReadyH.nil
  go_simp
  refine Calls.mono CN.out ?_
  rintro e W1 ⟨rfl, hb⟩
  have b1 : Below W0.heap.size W0 W1 := D0.trans hb
  have B1 : Hid (W1.heap[C]? = W0.heap[C]? ∧ W1.heap[B]? = W0.heap[B]?) := ⟨b1.block _ (blk_lt HX.out.ob), b1.block _ (blk_lt m0.out)⟩
  have X1 : Hid (CtX W1 S C P A hv mv c) := HX.out.kp (Kp.of_below b1 non) (fun _ f => f.elim)
  have K1 : Hid (Kp w W1 S) := (Kp.of_below b0.out S).trans (Kp.of_below b1 non) (fun _ f => f.elim)
  have M1 : Hid (MgAt W1 B m) := B1.out.2.trans m0.out
  have c51 : Hid (W1.cell? ⟨C, 5, none⟩ = some (.iface pt (.pointer (some ⟨P, 0, none⟩)))) := (F.out W1 B1.out).1
  clear hb b1 CN hHeld Q1 E1 D0
  refine hK.out _ _ (B1.out) (fun hHeld => ?_)
  clear hK
  (try simp only [Act.put, List.setIfInBounds_toArray, List.set_cons_zero, List.set_cons_succ])
  cases d with
  | false =>
    refine wpAnyH_take (i := 9) (v := (.bool true)) rfl (by kernel_rfl) (by kernel_rfl) (by kernel_rfl) (fun _ _ _ h => h) (Or.inl ⟨by kernel_rfl, ?_⟩) (by assumption) ?_
    · intro w' hSw
      (try dsimp only at hSw)
      go_simp
    (try simp only [Act.put, List.getElem_toArray, List.getElem_cons_zero, List.getElem_cons_succ, List.setIfInBounds_toArray, List.set_cons_zero, List.set_cons_succ])
    refine wpAnyH_take (i := 10) (v := (.bool true)) rfl (by kernel_rfl) (by kernel_rfl) (by kernel_rfl) (fun _ _ _ h => h) (Or.inl ⟨by kernel_rfl, ?_⟩) (by assumption) ?_
    · intro w' hSw
      (try dsimp only at hSw)
      go_simp
    (try simp only [Act.put, List.getElem_toArray, List.getElem_cons_zero, List.getElem_cons_succ, List.setIfInBounds_toArray, List.set_cons_zero, List.set_cons_succ])
    refine wpAnyH_ready (rs := [11]) (by kernel_rfl) (by simp) ?_
    refine AllReadyH.cons rfl (fun K hK => ?_) AllReadyH.nil
    go_simp
    refine hK.out _ _ (B1.out) (fun hHeld => ?_)
    clear hK
    (try simp only [Act.put, List.setIfInBounds_toArray, List.set_cons_zero, List.set_cons_succ])
    refine wpAnyH_done (by kernel_rfl) ?_ _
    go_wp2_with fail
    go_ret2
    refine ⟨_, rfl, ?_⟩
    rw [TC.out, TL.out, if_neg (by decide), if_neg (by decide)]
    exact Did.pre K1.out (Did.nil ⟨P, A, hv, mv, X1.out⟩)
  | true =>
    refine wpAnyH_take (i := 9) (v := (.bool false)) rfl (by kernel_rfl) (by kernel_rfl) (by kernel_rfl) (fun _ _ _ h => h) (Or.inl ⟨by kernel_rfl, ?_⟩) (by assumption) ?_
    · intro w' hSw
      (try dsimp only at hSw)
      go_simp
    (try simp only [Act.put, List.getElem_toArray, List.getElem_cons_zero, List.getElem_cons_succ, List.setIfInBounds_toArray, List.set_cons_zero, List.set_cons_succ])
    refine wpAnyH_take (i := 10) (v := (.bool false)) rfl (by kernel_rfl) (by kernel_rfl) (by kernel_rfl) (fun _ _ _ h => h) (Or.inl ⟨by kernel_rfl, ?_⟩) (by assumption) ?_
    · intro w' hSw
      (try dsimp only at hSw)
      go_simp
    (try simp only [Act.put, List.getElem_toArray, List.getElem_cons_zero, List.getElem_cons_succ, List.setIfInBounds_toArray, List.set_cons_zero, List.set_cons_succ])
    refine wpAnyH_ready (rs := [11]) (by kernel_rfl) (by simp) ?_
    refine AllReadyH.cons rfl (fun K hK => ?_) AllReadyH.nil
    go_simp
    refine hK.out _ _ (B1.out) (fun hHeld => ?_)
    clear hK
    (try simp only [Act.put, List.setIfInBounds_toArray, List.set_cons_zero, List.set_cons_succ])
    refine wpAnyH_done (by kernel_rfl) ?_ _
    have y8 := M1.out.cells.2.2.2.2.2.2.2.2.1
    rw [if_pos rfl] at TC TL
    by_cases hc : m.code = 0
    case neg =>
      have q8 : (m.code != 0) = true := by simpa using hc
      rw [if_neg hc] at TC TL
      have c5x := c51.out
      have FO := hide (follow_any ⟨P, A, hv, mv, X1.out⟩ HP.out OK.out rfv RV.out.1 RV.out.2)
      clear hc
      go_wp2_with fail
      refine Calls.mono (RF.out _) ?_
      rintro e W2 ⟨rfl, rfl⟩
      clear c5x y8 q8
      go_wp2_with fail
      refine Calls.mono FO.out ?_
      rintro e W2 ⟨lv, rfl, di⟩
      have DI := hide (Did.pre K1.out di)
      clear di FO
      go_wp2_with fail
      go_ret2
      refine ⟨lv, rfl, ?_⟩
      rw [TC.out, TL.out]
      exact DI.out
    case pos =>
      have q8 : (m.code != 0) = false := by simp [hc]
      rw [if_pos hc] at TC TL
      obtain ⟨g1, g2⟩ := cnt_fr HD.out.symm
      have hi : m.fr = ((m.fr.toNat : Nat) : Int) := (Int.toNat_of_nonneg g1).symm
      have D1 : Below W1.heap.size W1 W1.drew := ⟨rfl, rfl, rfl, Nat.le_refl _, fun _ _ => rfl⟩
      have NT := hide (note_any ((X1.out.rd p r HP.out).below D1) m m.fr.toNat hi (by omega) OK.out.n16)
      have F1 : Hid (∀ X : World, (X.heap[C]? = W1.heap[C]? ∧ X.heap[B]? = W1.heap[B]?) → X.cell? ⟨C, 5, none⟩ = some (.iface pt (.pointer (some ⟨P, 0, none⟩))) ∧ MgAt X B m) := fun X hX => F.out X ⟨hX.1.trans B1.out.1, hX.2.trans B1.out.2⟩
      clear hc g1 g2 hi F D1
      go_upto_region 8 with fail
      clear y8 q8
      refine wp_region_held_drew (S := fun X => X.heap[C]? = W1.heap[C]? ∧ X.heap[B]? = W1.heap[B]?) (by kernel_rfl) ⟨rfl, rfl⟩ (fun hHeld => ?_)
      refine wpAnyH_take (i := 0) (v := (.pointer (some ⟨C, 0, none⟩))) rfl (by kernel_rfl) (by kernel_rfl) (by kernel_rfl) (fun _ _ _ h => h) (Or.inl ⟨by kernel_rfl, ?_⟩) (by assumption) ?_
      · intro w' hSw
        (try dsimp only at hSw)
        go_simp
      (try simp only [Act.put, List.getElem_toArray, List.getElem_cons_zero, List.getElem_cons_succ, List.setIfInBounds_toArray, List.set_cons_zero, List.set_cons_succ])
      refine wpAnyH_take (i := 1) (v := (.pointer (some ⟨C, 0, none⟩))) rfl (by kernel_rfl) (by kernel_rfl) (by kernel_rfl) (fun _ _ _ h => h) (Or.inl ⟨by kernel_rfl, ?_⟩) (by assumption) ?_
      · intro w' hSw
        (try dsimp only at hSw)
        go_simp
      (try simp only [Act.put, List.getElem_toArray, List.getElem_cons_zero, List.getElem_cons_succ, List.setIfInBounds_toArray, List.set_cons_zero, List.set_cons_succ])
      refine wpAnyH_take (i := 2) (v := (.pointer (some ⟨C, 5, none⟩))) rfl (by kernel_rfl) (by kernel_rfl) (by kernel_rfl) (fun _ _ _ h => h) (Or.inl ⟨by kernel_rfl, ?_⟩) (by assumption) ?_
      · intro w' hSw
        (try dsimp only at hSw)
        go_simp
      (try simp only [Act.put, List.getElem_toArray, List.getElem_cons_zero, List.getElem_cons_succ, List.setIfInBounds_toArray, List.set_cons_zero, List.set_cons_succ])
      refine wpAnyH_take (i := 3) (v := (.iface pt (.pointer (some ⟨P, 0, none⟩)))) rfl (by kernel_rfl) (by kernel_rfl) (by kernel_rfl) (fun _ _ _ h => h) (Or.inl ⟨by kernel_rfl, ?_⟩) (by assumption) ?_
      · intro w' hSw
        (try dsimp only at hSw)
        (have z := (F1.out _ hSw).1; go_simp)
      (try simp only [Act.put, List.getElem_toArray, List.getElem_cons_zero, List.getElem_cons_succ, List.setIfInBounds_toArray, List.set_cons_zero, List.set_cons_succ])
      refine wpAnyH_take (i := 4) (v := (.agg (mgV m))) rfl (by kernel_rfl) (by kernel_rfl) (by kernel_rfl) (fun _ _ _ h => h) (Or.inl ⟨by kernel_rfl, ?_⟩) (by assumption) ?_
      · intro w' hSw
        (try dsimp only at hSw)
        (exact exec_ldR 44 (.tmp 3) rfl rfl _ (F1.out _ hSw).2 Try.underlying44 mg_info)
      (try simp only [Act.put, List.getElem_toArray, List.getElem_cons_zero, List.getElem_cons_succ, List.setIfInBounds_toArray, List.set_cons_zero, List.set_cons_succ])
      refine wpAnyH_ready (rs := [5]) (by kernel_rfl) (by simp) ?_
      refine AllReadyH.cons rfl (fun K hK => ?_) AllReadyH.nil
      go_simp
      refine Calls.mono NT.out ?_
      rintro e W2 ⟨rfl, hr, hk⟩
      have hk1 : Kp W1 W2 (fun k => k = A) := ((Kp.refl W1 (fun k => k = A)).drew).trans hk (fun k e => Or.inl e)
      have X2 : Hid (CtX W2 S C P A hv mv { c with ph := some (p, ntR r m) }) := X1.out.setR HP.out hr (hk1.mono (fun k e => Or.inr e))
      have K2 : Hid (Kp w W2 S) := K1.out.trans hk1 (fun k e => Or.inl (by rw [e]; exact (X1.out.sP (by rw [HP.out]; simp)).2))
      have S2 : Hid (W2.heap[C]? = W1.heap[C]? ∧ W2.heap[B]? = W1.heap[B]?) := by
        refine ⟨hk1.block _ (blk_lt X1.out.ob) (fun e => ?_), hk1.block _ (blk_lt M1.out) (fun e => ?_)⟩
        · have := X1.out.ob.symm.trans (e ▸ (X1.out.rd p r HP.out).an)
          simp only [Option.some.injEq, Obj.cells.injEq] at this
          simp at this
        · have := X1.out.lt A (X1.out.sP (by rw [HP.out]; simp)).2
          have := LT.out A (X1.out.sP (by rw [HP.out]; simp)).2
          have := HB.out
          omega
      have c52 : Hid (W2.cell? ⟨C, 5, none⟩ = some (.iface pt (.pointer (some ⟨P, 0, none⟩)))) := (F1.out W2 S2.out).1
      clear hr hk hk1 NT hHeld F1
      refine hK.out _ _ (S2.out) (fun hHeld => ?_)
      clear hK
      (try simp only [Act.put, List.setIfInBounds_toArray, List.set_cons_zero, List.set_cons_succ])
      refine wpAnyH_done (by kernel_rfl) ?_ _
      have MI := hide (missing_any (X2.out.rd p (ntR r m) rfl) OK.out.n16)
      have c5y := c52.out
      go_wp2_with fail
      refine Calls.mono MI.out ?_
      rintro e W3 ⟨v, rfl, ov, hb3⟩
      obtain ⟨va, vc, rfl⟩ := own_sl ov
      have X3 : Hid (CtAt W3 S C { c with ph := some (p, ntR r m) }) := ⟨P, A, hv, mv, X2.out.kp (Kp.of_below hb3 non) (fun _ f => f.elim)⟩
      have K3 : Hid (Kp w W3 S) := K2.out.trans (Kp.of_below hb3 non) (fun _ f => f.elim)
      have c53 : W3.cell? ⟨C, 5, none⟩ = some (.iface pt (.pointer (some ⟨P, 0, none⟩))) := ((Kp.of_below hb3 non).cell (blk_lt X2.out.ob) (fun f => f)).trans c52.out
      have hml : (miss (ntR r m).al).length ≤ 16 := by
        unfold miss
        have := missL_len (ntR r m).al (ntR r m).al.length
        have : (ntR r m).al.length = c.ru.n := (X2.out.rd p (ntR r m) rfl).len
        have := OK.out.n16
        omega
      clear ov hb3 MI c5y
      obtain ⟨ml, hmle⟩ : ∃ ml, ml = (miss (ntR r m).al).length := ⟨_, rfl⟩
      rw [← hmle] at TC TL hml ⊢
      clear hmle
      by_cases hz : ml = 0
      case neg =>
        rw [if_neg hz] at TC TL
        have hz1 : (0 : Int) < (ml : Int) := by omega
        have hz2 : decide ((0 : Int) < (ml : Int)) = true := decide_eq_true hz1
        have hz3 : decide (0 < ml) = true := decide_eq_true (by omega)
        clear hz
        go_wp2_with fail
        go_ret2
        refine ⟨_, rfl, ?_⟩
        rw [TC.out, TL.out]
        exact Did.pre K3.out (Did.nil X3.out)
      case pos =>
        rw [if_pos hz] at TC TL
        subst hz
        have o := OK.out.rd p r HP.out
        have FO := hide (follow_any' X3.out (p := p) (r := ntR r m) rfl OK.out.n1 OK.out.n16 o.2.2.1 o.2.2.2 cmv CV.out.1 CV.out.2)
        clear o
        go_wp2_with fail
        refine Calls.mono (CO.out _) ?_
        rintro e W4 ⟨rfl, rfl⟩
        clear c53
        go_wp2_with fail
        refine Calls.mono FO.out ?_
        rintro e W4 ⟨lv, rfl, di⟩
        have DI := hide (Did.pre K3.out di)
        clear di FO
        go_wp2_with fail
        go_ret2
        refine ⟨lv, rfl, ?_⟩
        rw [TC.out, TL.out]
        exact DI.out
end Go.Proofs.Ytpleakkhbfhdkaa.Cn
