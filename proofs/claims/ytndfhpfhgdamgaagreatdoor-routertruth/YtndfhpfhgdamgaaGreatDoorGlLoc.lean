import Derived.Test.YtndfhpfhgdamgaaGreatDoorGGkWalk
import Derived.Test.YtndfhpfhgdamgaaGreatDoorGGcTwin
import Derived.Test.YtndfhpfhgdamgaaGreatDoorGGmTake
import Derived.Test.YtndfhpfhgdamgaaGreatDoorGDmSeen
namespace Go.Proofs.YtndfhpfhgdamgaaGreatDoor
open Go.RowKit
theorem md5L_size (t : List UInt8) : (strOf (md5L t)).size = 16 := by
  rw [strOf_size]
  unfold md5L tellQ
  rfl
/-- a place, as it lies there -/
def plA (p c : Int) (h : ByteArray) : Array Value := #[.int .i64 p, .int .i64 c, .string h]
def PlAt (w : World) (b : Nat) (p c : Int) (h : ByteArray) : Prop := w.heap[b]? = some (.cells (plA p c h) 39)
theorem infoPl3 : (Tryz.prog.info? 39).map (·.size) = some 3 := by kernel_rfl
theorem plA_one (p c : Int) (h : ByteArray) : (plA p c h).all (·.oneCell') = true := by simp [plA, Value.oneCell']
theorem res_pl {fn : Func} {p q : Tmp} (h : fn.results = #[.cell p 39, .tmp q]) (tmps : Array Value) (a c : Int) (s : ByteArray) (w : World) (b : Nat) (ht : tmps.getD p undef = .pointer (some ⟨b, 0, none⟩)) (hO : PlAt w b a c s) (v : Value) (hv : tmps.getD q undef = v) : (results fn tmps).run Tryz.prog w = .ok (.tuple #[.agg (plA a c s), v]) w := by
  have hl : (loadVar 39 ⟨b, 0, none⟩).run Tryz.prog w = .ok (.agg (plA a c s)) w := run_loadVar_row _ _ 39 39 (plA a c s) (0, 0) _ hO Tryz.underlying39 rfl infoPl3
  have ht' : tmps[p]?.getD undef = .pointer (some ⟨b, 0, none⟩) := by simpa using ht
  have hv' : tmps[q]?.getD undef = v := by simpa using hv
  unfold results
  rw [h]
  simp [ht', hv', asAddr, hl]
/-- the error of Locate -/
noncomputable def lcE (st : ByteArray) (x : Nat → Int) (ns : List ND) (k : ByteArray) : Int := if errP st x ns = 0 then (if k.size = 0 ∨ 255 < k.size then 32 else 0) else errP st x ns
def lcP (ns : List ND) (k : ByteArray) : Int := ((hiF ((md5L k.data.toList).take 4) % ptN ns : Nat) : Int)
def lcC (x : Nat → Int) (k : ByteArray) : Int := ((hiF (((md5L k.data.toList).drop 4).take 4) % (x 2).toNat : Nat) : Int)
def lcH (x : Nat → Int) (k : ByteArray) : ByteArray := (strOf (md5L k.data.toList)).extract (16 - (x 1).toNat) 16
noncomputable def lcV (st : ByteArray) (x : Nat → Int) (ns : List ND) (k : ByteArray) : Array Value := if lcE st x ns k = 0 then plA (lcP ns k) (lcC x k) (lcH x k) else plA 0 0 ⟨#[]⟩
theorem lcE_bad {st : ByteArray} {x : Nat → Int} {ns : List ND} {k : ByteArray} (h : errP st x ns ≠ 0) : lcE st x ns k = errP st x ns := if_neg h
theorem lcE_key {st : ByteArray} {x : Nat → Int} {ns : List ND} {k : ByteArray} (h : errP st x ns = 0) (hk : k.size = 0 ∨ 255 < k.size) : lcE st x ns k = 32 := by unfold lcE; rw [if_pos h, if_pos hk]
theorem lcE_ok {st : ByteArray} {x : Nat → Int} {ns : List ND} {k : ByteArray} (h : errP st x ns = 0) (hk : ¬ (k.size = 0 ∨ 255 < k.size)) : lcE st x ns k = 0 := by unfold lcE; rw [if_pos h, if_neg hk]
theorem lcV_bad {st : ByteArray} {x : Nat → Int} {ns : List ND} {k : ByteArray} (h : lcE st x ns k ≠ 0) : lcV st x ns k = plA 0 0 ⟨#[]⟩ := if_neg h
theorem lcV_ok {st : ByteArray} {x : Nat → Int} {ns : List ND} {k : ByteArray} (h : lcE st x ns k = 0) : lcV st x ns k = plA (lcP ns k) (lcC x k) (lcH x k) := if_pos h
/-- the program's tables of digest -/
structure TabD (w : World) : Prop where
  sz : 3 ≤ w.heap.size
  s : TabS 0 w
  t : TabT 1 w
theorem errP_ok2 {st : ByteArray} {x : Nat → Int} {ns : List ND} (h : errP st x ns = 0) : sfP x = true := by
  unfold errP at h
  cases e : sfP x with
  | true => rfl
  | false => rw [e] at h; split at h <;> simp at h
theorem TabD.below {w w' : World} (h : TabD w) (hb : Below w.heap.size w w') : TabD w' :=
  ⟨Nat.le_trans h.sz hb.size, h.s.below hb (by have := h.sz; omega), h.t.below hb (by have := h.sz; omega)⟩
theorem lie1 {d : ByteArray} {h : Nat} {w : World} (t2 : w.cell? ⟨h, 0, none⟩ = some (.string d)) : Lies h 0 w [d] := fun j x hx => by
  match j, hx with
  | 0, hx => simp at hx; subst hx; exact t2
theorem cat1 (d : ByteArray) : cat [d] = d.data.toList := by simp [cat]
theorem md5_1 (d : ByteArray) (h : Nat) (w : World) (hd : d.size ≤ 1099511627776) (t1 : TabD w) (t2 : w.cell? ⟨h, 0, none⟩ = some (.string d)) :
    Calls Tryz.prog 34 #[.slice (some ⟨h, 0, none⟩) 1 1] w fun e w' => e = .returned (.string (strOf (md5L d.data.toList))) ∧ Below w.heap.size w w' := by
  have := md5_any (some ⟨h, 0, none⟩) h 0 1 [d] w (fun _ => rfl) (fun _ => World.block_lt_of_cell? w _ t2) (lie1 t2) (by simp) (by rw [cat1, size_data]; exact hd) t1.sz t1.s t1.t
  rw [cat1] at this
  exact this
theorem cut4 (s : ByteArray) (a : Nat) : (s.extract a (a + 4)).data.toList = (s.data.toList.drop a).take 4 := by
  rw [Lib.extract_data]
  simp [List.take_drop]
theorem exec_remN {ρ : Operand → Value} {op : Oper} {w : World} {a b : Nat} {t2 : TypeId} (x y : Operand) (ho : op.op = .binOp .rem 3 x y t2) (hx : ρ x = .int .i64 (a : Int)) (hy : ρ y = .int .i64 (b : Int)) (h0 : 0 < b) (h1 : b < 9223372036854775808) : (execOp ρ op).run Tryz.prog w = .ok (.value (.int .i64 ((a % b : Nat) : Int))) w := by
  unfold execOp
  simp only [ho, hx, hy]
  have hm : (a : Int).tmod (b : Int) = ((a % b : Nat) : Int) := by rw [Int.tmod_eq_emod_of_nonneg (by omega)]; rfl
  have hl : a % b < b := Nat.mod_lt _ h0
  generalize a % b = r at *
  have hb0 : ((b : Int) == 0) = false := beq_eq_false_iff_ne.2 (by omega)
  have e := wrap_in (x := (r : Int)) (by omega) (by omega)
  go_simp
  omega
theorem exec_subN {ρ : Operand → Value} {op : Oper} {w : World} {a b : Int} {t2 : TypeId} (x y : Operand) (ho : op.op = .binOp .sub 3 x y t2) (hx : ρ x = .int .i64 a) (hy : ρ y = .int .i64 b) (h0 : -9223372036854775808 ≤ a - b) (h1 : a - b < 9223372036854775808) : (execOp ρ op).run Tryz.prog w = .ok (.value (.int .i64 (a - b))) w := by
  unfold execOp
  simp only [ho, hx, hy]
  go_simp
  exact i64_in h0 h1
theorem ClAt.x1 {w : World} {b : Nat} {st : ByteArray} {x : Nat → Int} {nv : Value} (h : ClAt w b st x nv) : w.cell? ⟨b, 2, none⟩ = some (.int .i64 (x 1)) := h.x 1 (by omega)
theorem exec_subM {ρ : Operand → Value} {op : Oper} {w : World} {a b : Nat} {t2 : TypeId} (x y : Operand) (ho : op.op = .binOp .sub 3 x y t2) (hx : ρ x = .int .i64 (a : Int)) (hy : ρ y = .int .i64 (b : Int)) (h0 : b ≤ a) (h1 : a < 9223372036854775808) : (execOp ρ op).run Tryz.prog w = .ok (.value (.int .i64 ((a - b : Nat) : Int))) w := by
  have e : ((a - b : Nat) : Int) = (a : Int) - (b : Int) := by omega
  rw [e]
  exact exec_subN x y ho hx hy (by omega) (by omega)
theorem exec_cutS {ρ : Operand → Value} {op : Oper} {w : World} {s : ByteArray} {lo hi : Nat} (h1 : lo ≤ hi) (h2 : hi ≤ s.size) (_h3 : s.size ≤ 1099511627776) (x y z : Operand) (ho : op.op = .slice 9 x (some y) (some z) none) (hx : ρ x = .string s) (hy : ρ y = .int .i64 (lo : Int)) (hz : ρ z = .int .i64 (hi : Int)) : (execOp ρ op).run Tryz.prog w = .ok (.value (.string (s.extract lo hi))) w := by
  have e1 : (lo : Int) ≤ (hi : Int) := by omega
  have e2 : (hi : Int) ≤ (s.size : Int) := by omega
  unfold execOp
  simp only [ho, hx, hy, hz, Option.map_some, Option.map_none]
  go_simp
theorem exec_cutE {ρ : Operand → Value} {op : Oper} {w : World} {s : ByteArray} {lo : Nat} (h1 : lo ≤ s.size) (_h3 : s.size ≤ 1099511627776) (x y : Operand) (ho : op.op = .slice 9 x (some y) none none) (hx : ρ x = .string s) (hy : ρ y = .int .i64 (lo : Int)) : (execOp ρ op).run Tryz.prog w = .ok (.value (.string (s.extract lo s.size))) w := by
  have e1 : (lo : Int) ≤ (s.size : Int) := by omega
  unfold execOp
  simp only [ho, hx, hy, Option.map_some, Option.map_none]
  go_simp
theorem exec_lenS {ρ : Operand → Value} {op : Oper} {w : World} {s : ByteArray} {n : Nat} (hn : s.size = n) (x : Operand) (ho : op.op = .call { callee := .builtin .len, args := #[x], argTypes := #[9] }) (hx : ρ x = .string s) : (execOp ρ op).run Tryz.prog w = .ok (.value (.int .i64 (n : Int))) w := by
  subst hn
  unfold execOp
  simp only [ho, hx, resolve, invoke, builtin, List.map_toArray, List.map_cons, List.map_nil]
  go_simp
theorem exec_cutN {ρ : Operand → Value} {op : Oper} {w : World} {s : ByteArray} {lo n : Nat} (hn : s.size = n) (h1 : lo ≤ n) (h3 : n ≤ 1099511627776) (x y : Operand) (ho : op.op = .slice 9 x (some y) none none) (hx : ρ x = .string s) (hy : ρ y = .int .i64 (lo : Int)) : (execOp ρ op).run Tryz.prog w = .ok (.value (.string (s.extract lo n))) w := by
  subst hn
  exact exec_cutE h1 h3 x y ho hx hy
theorem exec_buildPl {ρ : Operand → Value} {op : Oper} {w : World} {a c : Int} {s : ByteArray} (x y z : Operand) (ho : op.op = .build 39 #[(0, x), (1, y), (2, z)]) (hx : ρ x = .int .i64 a) (hy : ρ y = .int .i64 c) (hz : ρ z = .string s) : (execOp ρ op).run Tryz.prog w = .ok (.value (.agg (plA a c s))) w := by
  unfold execOp
  have hb : Tryz.prog.built 39 [(0, .int .i64 a), (1, .int .i64 c), (2, .string s)] = some (plA a c s) := by kernel_rfl
  simp only [ho, List.map_toArray, List.map_cons, List.map_nil, hx, hy, hz, Sem.run_bind, Sem.run_pure, Result.andThen_ok, run_build w 39 _ _ hb]
set_option maxHeartbeats 8000000 in
set_option maxRecDepth 100000 in
set_option linter.unusedSimpArgs false in
set_option linter.unusedVariables false in
/-- Locate -/
theorem locate_any (N : Nat) (w : World) (st : ByteArray) (x : Nat → Int) (ao : Option Addr) (b o cap : Nat) (pv : Nat → Value) (ns : List ND) (key : ByteArray) (h : NsAt N w ao b o pv ns) (hN : N ≤ w.heap.size) (hs : st.size ≤ 9223372036854775807) (hks : key.size ≤ 9223372036854775807) (hD : TabD w) :
    Calls Tryz.prog 14 #[.agg (clA st x (.slice ao ns.length cap)), .string key] w fun e w' => e = .returned (.tuple #[.agg (lcV st x ns key), .int .i64 (lcE st x ns key)]) ∧ Below w.heap.size w w' := by
  obtain ⟨W0, hW0⟩ : ∃ W0, W0 = (w.alloc (.cells (clA st x (.slice ao ns.length cap)) 24)).alloc (.cells (plA 0 0 ⟨#[]⟩) 39) := ⟨_, rfl⟩
  have B0 : Hid (Below w.heap.size w W0) := by rw [hW0]; exact ((Below.refl _ _).alloc (Nat.le_refl _) _).alloc (by simp) _
  have C0 : Hid (ClAt W0 w.heap.size st x (.slice ao ns.length cap)) := by rw [hW0]; exact (new_cl _ _ _ _).below ((Below.refl _ _).alloc (Nat.le_refl _) _)
  have R0 : Hid (PlAt W0 (w.heap.size + 1) 0 0 ⟨#[]⟩) := by
    rw [hW0]
    have := heap_last (w.alloc (.cells (clA st x (.slice ao ns.length cap)) 24)) (.cells (plA 0 0 ⟨#[]⟩) 39)
    simp only [World.size_alloc] at this
    exact this
  have T0 := hide (hD.below B0.out)
  have ND := hide (nodesOf_any N W0 st x ao b o cap pv ns (h.below (B0.out.mono hN)) (Nat.le_trans hN B0.out.size) hs)
  clear h hD
  obtain ⟨E, hE⟩ : ∃ E, E = lcE st x ns key := ⟨_, rfl⟩
  obtain ⟨V, hV⟩ : ∃ V, V = lcV st x ns key := ⟨_, rfl⟩
  rw [← hE, ← hV]
  have HE := hide hE
  have HV := hide hV
  clear hE hV
  go_enter Tryz.func14, Tryz.ntmps14
  go_upto_region 1 with fail
  rw [show (w.alloc (.cells (clA st x (.slice ao ns.length cap)) 24)).alloc (.cells #[.int .i64 0, .int .i64 0, .string ⟨#[]⟩] 39) = W0 from hW0.symm]
  clear hW0
  go_wp2_with (refine wpList_loadCl rfl (.tmp 2) rfl w.heap.size st x _ rfl C0.out ?_)
  refine Calls.mono ND.out ?_
  rintro e W1 ⟨⟨v, rfl, h1, h2⟩, hb⟩
  have C1 := hide (C0.out.below hb)
  have R1 : Hid (PlAt W1 (w.heap.size + 1) 0 0 ⟨#[]⟩) := (hb.block _ (blk_lt R0.out)).trans R0.out
  have T1 := hide (T0.out.below hb)
  have B1 := hide (B0.out.trans (hb.mono B0.out.size))
  clear hb C0 R0 T0 B0 ND
  have fin : Hid (∀ (X : World) (p c : Int) (s : ByteArray), Below w.heap.size w X → PlAt X (w.heap.size + 1) 0 0 ⟨#[]⟩ → PlAt (X.setRow (w.heap.size + 1) (plA p c s)) (w.heap.size + 1) p c s ∧ Below w.heap.size w (X.setRow (w.heap.size + 1) (plA p c s))) := fun X p c s hb hR => ⟨setRow_heap X (w.heap.size + 1) _ _ 39 _ hR, below_setRow hb (by omega) _⟩
  by_cases he : errP st x ns = 0
  case neg =>
    obtain rfl := h2 he
    have hE2 : E = errP st x ns := HE.out.trans (lcE_bad he)
    have hV2 : V = plA 0 0 ⟨#[]⟩ := HV.out.trans (lcV_bad (by rw [lcE_bad he]; exact he))
    rw [← hE2] at he ⊢
    have HV2 := hide hV2
    have hne : ¬ E = 0 := he
    clear h1 h2 hE2 hV2 he HE HV
    go_wp2_with (refine wpList_store_row rfl 39 (.tmp 4) (.tmp 16) rfl (w.heap.size + 1) (plA 0 0 ⟨#[]⟩) rfl rfl 39 _ R1.out infoPl3 rfl (plA_one _ _ _) ?_)
    obtain ⟨f1, f2⟩ := fin.out _ 0 0 ⟨#[]⟩ B1.out R1.out
    refine bodyPost_ret (v := .tuple #[.agg (plA 0 0 ⟨#[]⟩), .int .i64 E]) (res_pl Tryz.results14 _ 0 0 ⟨#[]⟩ _ (w.heap.size + 1) rfl f1 _ rfl) rfl ⟨by rw [HV2.out], f2⟩
  case pos =>
    obtain ⟨hd, g, rfl, hg, _⟩ := h1 he
    have d1 : 1 ≤ ptN ns := hd.p1
    have d2 : ptN ns ≤ 64 := hd.p2
    have hsf := (errP_ok2 he)
    have L1 : 1 ≤ x 1 ∧ x 1 ≤ 16 := sfP_lim hsf 1 (by omega)
    have L2 : 1 ≤ x 2 ∧ x 2 ≤ 16 := sfP_lim hsf 2 (by omega)
    have KB := hide (fun hk => lcE_key (k := key) he hk)
    have KO := hide (fun hk => lcE_ok (k := key) he hk)
    rw [he]
    clear h1 h2 hd hg he hsf
    by_cases hk0 : key.size = 0
    · have hE2 : E = 32 := HE.out.trans (KB.out (Or.inl hk0))
      have HV2 : Hid (V = plA 0 0 ⟨#[]⟩) := HV.out.trans (lcV_bad (by rw [KB.out (Or.inl hk0)]; omega))
      subst hE2
      have hke : key = ⟨#[]⟩ := ByteArray.ext (Array.toList_inj.1 (by rw [List.length_eq_zero_iff.1 (show key.data.toList.length = 0 by rw [size_data]; exact hk0)]))
      subst hke
      clear HE HV KB KO
      go_wp2_with (refine wpList_store_row rfl 39 (.tmp 4) (.tmp 25) rfl (w.heap.size + 1) (plA 0 0 ⟨#[]⟩) rfl rfl 39 _ R1.out infoPl3 rfl (plA_one _ _ _) ?_)
      obtain ⟨f1, f2⟩ := fin.out _ 0 0 ⟨#[]⟩ B1.out R1.out
      refine bodyPost_ret (v := .tuple #[.agg (plA 0 0 ⟨#[]⟩), .int .i64 32]) (res_pl Tryz.results14 _ 0 0 ⟨#[]⟩ _ (w.heap.size + 1) rfl f1 _ rfl) rfl ⟨by rw [HV2.out], f2⟩
    have hne : key.toList.isEmpty = false := by
      rw [toList_data]
      cases hd : key.data.toList with
      | nil => exact absurd (by rw [← size_data, hd]; rfl) hk0
      | cons a b => rfl
    by_cases hk1 : 255 < key.size
    · have hE2 : E = 32 := HE.out.trans (KB.out (Or.inr hk1))
      have HV2 : Hid (V = plA 0 0 ⟨#[]⟩) := HV.out.trans (lcV_bad (by rw [KB.out (Or.inr hk1)]; omega))
      subst hE2
      have hk1' : (255 : Int) < (key.size : Int) := by omega
      clear HE HV KB KO
      go_wp2_with (refine wpList_store_row rfl 39 (.tmp 4) (.tmp 25) rfl (w.heap.size + 1) (plA 0 0 ⟨#[]⟩) rfl rfl 39 _ R1.out infoPl3 rfl (plA_one _ _ _) ?_)
      obtain ⟨f1, f2⟩ := fin.out _ 0 0 ⟨#[]⟩ B1.out R1.out
      refine bodyPost_ret (v := .tuple #[.agg (plA 0 0 ⟨#[]⟩), .int .i64 32]) (res_pl Tryz.results14 _ 0 0 ⟨#[]⟩ _ (w.heap.size + 1) rfl f1 _ rfl) rfl ⟨by rw [HV2.out], f2⟩
    have hk1' : ¬ (255 : Int) < (key.size : Int) := by omega
    have hz := KO.out (by omega)
    have hE2 : E = 0 := HE.out.trans hz
    have HV2 : Hid (V = plA (lcP ns key) (lcC x key) (lcH x key)) := HV.out.trans (lcV_ok hz)
    subst hE2
    clear HE HV KB KO hz
    obtain ⟨W2, hW2⟩ : ∃ W2, W2 = W1.alloc (.cells #[.string key] 9) := ⟨_, rfl⟩
    have B2 : Hid (Below W1.heap.size W1 W2) := by rw [hW2]; exact (Below.refl _ _).alloc (Nat.le_refl _) _
    have k2 : W2.cell? ⟨W1.heap.size, 0, none⟩ = some (.string key) := by
      unfold World.cell?
      rw [show W2.heap[W1.heap.size]? = some (.cells #[.string key] 9) from by rw [hW2]; exact heap_last _ _]
      rfl
    have MD := hide (md5_1 key W1.heap.size W2 (by omega) (T1.out.below B2.out) k2)
    clear k2
    go_wp2_with fail
    rw [← hW2]
    clear hW2
    refine Calls.mono MD.out ?_
    rintro e W3 ⟨rfl, hb⟩
    have hb3 : Below W1.heap.size W1 W3 := B2.out.trans (hb.mono B2.out.size)
    have C3 := hide (C1.out.below hb3)
    have R3 : Hid (PlAt W3 (w.heap.size + 1) 0 0 ⟨#[]⟩) := (hb3.block _ (blk_lt R1.out)).trans R1.out
    have B3 := hide (B1.out.trans (hb3.mono B1.out.size))
    clear hb hb3 C1 R1 B1 B2 T1 MD
    have hsz := md5L_size key.data.toList
    obtain ⟨wd, hwd⟩ : ∃ wd : Nat, (wd : Int) = x 1 := ⟨(x 1).toNat, by omega⟩
    obtain ⟨ch, hch⟩ : ∃ ch : Nat, (ch : Int) = x 2 := ⟨(x 2).toNat, by omega⟩
    have HP : Hid (lcP ns key = ((hiF ((strOf (md5L key.data.toList)).extract 0 4).data.toList % ptN ns : Nat) : Int)) := by
      show _ = _
      unfold lcP
      rw [show (4 : Nat) = 0 + 4 from rfl, cut4, strOf_data]
      simp
    have HC : Hid (lcC x key = ((hiF ((strOf (md5L key.data.toList)).extract 4 8).data.toList % ch : Nat) : Int)) := by
      show _ = _
      unfold lcC
      rw [show (8 : Nat) = 4 + 4 from rfl, cut4, strOf_data, show (x 2).toNat = ch by omega]
    have HH : Hid (lcH x key = (strOf (md5L key.data.toList)).extract (16 - wd) 16) := by
      show _ = _
      unfold lcH
      rw [show (x 1).toNat = wd by omega]
    generalize strOf (md5L key.data.toList) = md at *
    go_upto_region 7 with fail
    have H1 := hide (fun w' => high_any (md.extract 0 4) (by rw [ByteArray.size_extract]; omega) w')
    have H2 := hide (fun w' => high_any (md.extract 4 8) (by rw [ByteArray.size_extract]; omega) w')
    have HWD := hide hwd
    have HCH := hide hch
    have w1 : 1 ≤ wd ∧ wd ≤ 16 := by omega
    have c1 : 1 ≤ ch ∧ ch ≤ 16 := by omega
    have HSZ := hide hsz
    clear hwd hch hsz L1 L2
    generalize hiF (md.extract 0 4).data.toList = f1 at *
    generalize hiF (md.extract 4 8).data.toList = f2 at *
    obtain ⟨u1, hu1⟩ : ∃ u, f1 % ptN ns = u := ⟨_, rfl⟩
    obtain ⟨u2, hu2⟩ : ∃ u, f2 % ch = u := ⟨_, rfl⟩
    rw [hu1] at HP
    rw [hu2] at HC
    have HU1 := hide hu1
    have HU2 := hide hu2
    clear hu1 hu2
    obtain ⟨hh, hhe⟩ : ∃ hh, md.extract (16 - wd) 16 = hh := ⟨_, rfl⟩
    have HHE := hide hhe
    rw [hhe] at HH
    clear hhe
    refine wp_region_held_drew (S := fun Y => ClAt Y w.heap.size st x (.slice ao ns.length cap)) (by kernel_rfl) C3.out (fun hHeld => ?_)
    refine wpAnyH_take (i := 0) (v := (.string md)) rfl (by kernel_rfl) (by kernel_rfl) (by kernel_rfl) (fun _ _ _ h => h) (Or.inl ⟨by rfl, ?_⟩) (by assumption) ?_
    · intro w' hSw
      (try dsimp only at hSw)
      exact exec_move (.tmp 8) rfl (by kernel_rfl)
    (try simp only [Act.put, List.getElem_toArray, List.getElem_cons_zero, List.getElem_cons_succ, List.setIfInBounds_toArray, List.set_cons_zero, List.set_cons_succ])
    refine wpAnyH_take (i := 1) (v := (.string (md.extract 0 4))) rfl (by kernel_rfl) (by kernel_rfl) (by kernel_rfl) (fun _ _ _ h => h) (Or.inl ⟨by rfl, ?_⟩) (by assumption) ?_
    · intro w' hSw
      (try dsimp only at hSw)
      exact exec_cutS (by omega) (by rw [HSZ.out]; omega) (by rw [HSZ.out]; omega) (.tmp 29) (.const (.int .i64 0)) (.const (.int .i64 4)) rfl (by kernel_rfl) (by kernel_rfl) (by kernel_rfl)
    (try simp only [Act.put, List.getElem_toArray, List.getElem_cons_zero, List.getElem_cons_succ, List.setIfInBounds_toArray, List.set_cons_zero, List.set_cons_succ])
    refine wpAnyH_take (i := 3) (v := (.slice (some ⟨g, 0, none⟩) (ptN ns) (ptN ns))) rfl (by kernel_rfl) (by kernel_rfl) (by kernel_rfl) (fun _ _ _ h => h) (Or.inl ⟨by rfl, ?_⟩) (by assumption) ?_
    · intro w' hSw
      (try dsimp only at hSw)
      exact exec_move (.tmp 6) rfl (by kernel_rfl)
    (try simp only [Act.put, List.getElem_toArray, List.getElem_cons_zero, List.getElem_cons_succ, List.setIfInBounds_toArray, List.set_cons_zero, List.set_cons_succ])
    refine wpAnyH_take (i := 4) (v := (.int .i64 (ptN ns : Int))) rfl (by kernel_rfl) (by kernel_rfl) (by kernel_rfl) (fun _ _ _ h => h) (Or.inl ⟨by rfl, ?_⟩) (by assumption) ?_
    · intro w' hSw
      (try dsimp only at hSw)
      exact exec_len (ba := some ⟨g, 0, none⟩) (n := ptN ns) (c := ptN ns) (.tmp 32) rfl (Or.inr rfl) (by kernel_rfl)
    (try simp only [Act.put, List.getElem_toArray, List.getElem_cons_zero, List.getElem_cons_succ, List.setIfInBounds_toArray, List.set_cons_zero, List.set_cons_succ])
    refine wpAnyH_take (i := 6) (v := (.string md)) rfl (by kernel_rfl) (by kernel_rfl) (by kernel_rfl) (fun _ _ _ h => h) (Or.inl ⟨by rfl, ?_⟩) (by assumption) ?_
    · intro w' hSw
      (try dsimp only at hSw)
      exact exec_move (.tmp 8) rfl (by kernel_rfl)
    (try simp only [Act.put, List.getElem_toArray, List.getElem_cons_zero, List.getElem_cons_succ, List.setIfInBounds_toArray, List.set_cons_zero, List.set_cons_succ])
    refine wpAnyH_take (i := 7) (v := (.string (md.extract 4 8))) rfl (by kernel_rfl) (by kernel_rfl) (by kernel_rfl) (fun _ _ _ h => h) (Or.inl ⟨by rfl, ?_⟩) (by assumption) ?_
    · intro w' hSw
      (try dsimp only at hSw)
      exact exec_cutS (by omega) (by rw [HSZ.out]; omega) (by rw [HSZ.out]; omega) (.tmp 35) (.const (.int .i64 4)) (.const (.int .i64 8)) rfl (by kernel_rfl) (by kernel_rfl) (by kernel_rfl)
    (try simp only [Act.put, List.getElem_toArray, List.getElem_cons_zero, List.getElem_cons_succ, List.setIfInBounds_toArray, List.set_cons_zero, List.set_cons_succ])
    refine wpAnyH_take (i := 9) (v := (.pointer (some ⟨w.heap.size, 3, none⟩))) rfl (by kernel_rfl) (by kernel_rfl) (by kernel_rfl) (fun _ _ _ h => h) (Or.inl ⟨by rfl, ?_⟩) (by assumption) ?_
    · intro w' hSw
      (try dsimp only at hSw)
      go_simp
    (try simp only [Act.put, List.getElem_toArray, List.getElem_cons_zero, List.getElem_cons_succ, List.setIfInBounds_toArray, List.set_cons_zero, List.set_cons_succ])
    refine wpAnyH_take (i := 10) (v := (.int .i64 (ch : Int))) rfl (by kernel_rfl) (by kernel_rfl) (by kernel_rfl) (fun _ _ _ h => h) (Or.inl ⟨by rfl, ?_⟩) (by assumption) ?_
    · intro w' hSw
      (try dsimp only at hSw)
      (rw [HCH.out]; exact exec_ld (.tmp 38) rfl (Or.inl rfl) (by kernel_rfl) hSw.x2)
    (try simp only [Act.put, List.getElem_toArray, List.getElem_cons_zero, List.getElem_cons_succ, List.setIfInBounds_toArray, List.set_cons_zero, List.set_cons_succ])
    refine wpAnyH_take (i := 12) (v := (.string md)) rfl (by kernel_rfl) (by kernel_rfl) (by kernel_rfl) (fun _ _ _ h => h) (Or.inl ⟨by rfl, ?_⟩) (by assumption) ?_
    · intro w' hSw
      (try dsimp only at hSw)
      exact exec_move (.tmp 8) rfl (by kernel_rfl)
    (try simp only [Act.put, List.getElem_toArray, List.getElem_cons_zero, List.getElem_cons_succ, List.setIfInBounds_toArray, List.set_cons_zero, List.set_cons_succ])
    refine wpAnyH_take (i := 13) (v := (.string md)) rfl (by kernel_rfl) (by kernel_rfl) (by kernel_rfl) (fun _ _ _ h => h) (Or.inl ⟨by rfl, ?_⟩) (by assumption) ?_
    · intro w' hSw
      (try dsimp only at hSw)
      exact exec_move (.tmp 8) rfl (by kernel_rfl)
    (try simp only [Act.put, List.getElem_toArray, List.getElem_cons_zero, List.getElem_cons_succ, List.setIfInBounds_toArray, List.set_cons_zero, List.set_cons_succ])
    refine wpAnyH_take (i := 14) (v := (.int .i64 ((16 : Nat) : Int))) rfl (by kernel_rfl) (by kernel_rfl) (by kernel_rfl) (fun _ _ _ h => h) (Or.inl ⟨by rfl, ?_⟩) (by assumption) ?_
    · intro w' hSw
      (try dsimp only at hSw)
      exact exec_lenS HSZ.out (.tmp 42) rfl (by kernel_rfl)
    (try simp only [Act.put, List.getElem_toArray, List.getElem_cons_zero, List.getElem_cons_succ, List.setIfInBounds_toArray, List.set_cons_zero, List.set_cons_succ])
    refine wpAnyH_take (i := 15) (v := (.pointer (some ⟨w.heap.size, 2, none⟩))) rfl (by kernel_rfl) (by kernel_rfl) (by kernel_rfl) (fun _ _ _ h => h) (Or.inl ⟨by rfl, ?_⟩) (by assumption) ?_
    · intro w' hSw
      (try dsimp only at hSw)
      go_simp
    (try simp only [Act.put, List.getElem_toArray, List.getElem_cons_zero, List.getElem_cons_succ, List.setIfInBounds_toArray, List.set_cons_zero, List.set_cons_succ])
    refine wpAnyH_take (i := 16) (v := (.int .i64 (wd : Int))) rfl (by kernel_rfl) (by kernel_rfl) (by kernel_rfl) (fun _ _ _ h => h) (Or.inl ⟨by rfl, ?_⟩) (by assumption) ?_
    · intro w' hSw
      (try dsimp only at hSw)
      (have q := ClAt.x1 hSw; rw [← HWD.out] at q; exact exec_ld (.tmp 44) rfl (Or.inl rfl) (by kernel_rfl) q)
    (try simp only [Act.put, List.getElem_toArray, List.getElem_cons_zero, List.getElem_cons_succ, List.setIfInBounds_toArray, List.set_cons_zero, List.set_cons_succ])
    refine wpAnyH_take (i := 17) (v := (.int .i64 ((16 - wd : Nat) : Int))) rfl (by kernel_rfl) (by kernel_rfl) (by kernel_rfl) (fun _ _ _ h => h) (Or.inl ⟨by rfl, ?_⟩) (by assumption) ?_
    · intro w' hSw
      (try dsimp only at hSw)
      exact exec_subM (a := 16) (.tmp 43) (.tmp 45) rfl (by kernel_rfl) (by kernel_rfl) (by omega) (by omega)
    (try simp only [Act.put, List.getElem_toArray, List.getElem_cons_zero, List.getElem_cons_succ, List.setIfInBounds_toArray, List.set_cons_zero, List.set_cons_succ])
    refine wpAnyH_take (i := 18) (v := (.string hh)) rfl (by kernel_rfl) (by kernel_rfl) (by kernel_rfl) (fun _ _ _ h => h) (Or.inl ⟨by rfl, ?_⟩) (by assumption) ?_
    · intro w' hSw
      (try dsimp only at hSw)
      (rw [← HHE.out]; exact exec_cutN HSZ.out (by omega) (by omega) (.tmp 41) (.tmp 46) rfl (by kernel_rfl) (by kernel_rfl))
    (try simp only [Act.put, List.getElem_toArray, List.getElem_cons_zero, List.getElem_cons_succ, List.setIfInBounds_toArray, List.set_cons_zero, List.set_cons_succ])
    refine wpAnyH_callTake (i := 2) (v := (.int .i64 (f1 : Int))) rfl (by kernel_rfl) (by kernel_rfl) (by kernel_rfl) (fun _ _ _ h => h) (by kernel_rfl) 35 #[.string (md.extract 0 4)] (fun w' => by kernel_rfl) (fun w' hSw => H1.out w') (by assumption) ?_
    (try simp only [Act.put, List.getElem_toArray, List.getElem_cons_zero, List.getElem_cons_succ, List.setIfInBounds_toArray, List.set_cons_zero, List.set_cons_succ])
    refine wpAnyH_take (i := 5) (v := (.int .i64 (u1 : Int))) rfl (by kernel_rfl) (by kernel_rfl) (by kernel_rfl) (fun _ _ _ h => h) (Or.inl ⟨by rfl, ?_⟩) (by assumption) ?_
    · intro w' hSw
      (try dsimp only at hSw)
      (rw [← HU1.out]; exact exec_remN (.tmp 31) (.tmp 33) rfl (by kernel_rfl) (by kernel_rfl) (by omega) (by omega))
    (try simp only [Act.put, List.getElem_toArray, List.getElem_cons_zero, List.getElem_cons_succ, List.setIfInBounds_toArray, List.set_cons_zero, List.set_cons_succ])
    refine wpAnyH_callTake (i := 8) (v := (.int .i64 (f2 : Int))) rfl (by kernel_rfl) (by kernel_rfl) (by kernel_rfl) (fun _ _ _ h => h) (by kernel_rfl) 35 #[.string (md.extract 4 8)] (fun w' => by kernel_rfl) (fun w' hSw => H2.out w') (by assumption) ?_
    (try simp only [Act.put, List.getElem_toArray, List.getElem_cons_zero, List.getElem_cons_succ, List.setIfInBounds_toArray, List.set_cons_zero, List.set_cons_succ])
    refine wpAnyH_take (i := 11) (v := (.int .i64 (u2 : Int))) rfl (by kernel_rfl) (by kernel_rfl) (by kernel_rfl) (fun _ _ _ h => h) (Or.inl ⟨by rfl, ?_⟩) (by assumption) ?_
    · intro w' hSw
      (try dsimp only at hSw)
      (rw [← HU2.out]; exact exec_remN (.tmp 37) (.tmp 39) rfl (by kernel_rfl) (by kernel_rfl) (by omega) (by omega))
    (try simp only [Act.put, List.getElem_toArray, List.getElem_cons_zero, List.getElem_cons_succ, List.setIfInBounds_toArray, List.set_cons_zero, List.set_cons_succ])
    refine wpAnyH_take (i := 19) (v := (.agg (plA (u1 : Int) (u2 : Int) hh))) rfl (by kernel_rfl) (by kernel_rfl) (by kernel_rfl) (fun _ _ _ h => h) (Or.inl ⟨by rfl, ?_⟩) (by assumption) ?_
    · intro w' hSw
      (try dsimp only at hSw)
      exact exec_buildPl (.tmp 34) (.tmp 40) (.tmp 47) rfl (by kernel_rfl) (by kernel_rfl) (by kernel_rfl)
    (try simp only [Act.put, List.getElem_toArray, List.getElem_cons_zero, List.getElem_cons_succ, List.setIfInBounds_toArray, List.set_cons_zero, List.set_cons_succ])
    refine wpAnyH_ready (rs := [20]) (by kernel_rfl) (by simp) ?_
    refine AllReadyH.cons rfl (fun K hK => ?_) AllReadyH.nil
    rw [if_pos (by kernel_rfl)]
    refine wp_store_row 39 (.tmp 4) (.tmp 48) rfl (w.heap.size + 1) (plA (u1 : Int) (u2 : Int) hh) (by kernel_rfl) (by kernel_rfl) 39 _ R3.out infoPl3 rfl (plA_one _ _ _) ?_
    obtain ⟨g1, g2⟩ := fin.out W3.drew (u1 : Int) (u2 : Int) hh B3.out.drew R3.out
    have G1 := hide g1
    have G2 := hide g2
    have C4 : Hid (ClAt (W3.drew.setRow (w.heap.size + 1) (plA (u1 : Int) (u2 : Int) hh)) w.heap.size st x (.slice ao ns.length cap)) := (setRow_other W3.drew (w.heap.size + 1) w.heap.size _ (by omega)).trans C3.out
    clear g1 g2
    refine hK.out _ _ (C4.out) (fun hHeld => ?_)
    clear hK
    (try simp only [Act.put, List.setIfInBounds_toArray, List.set_cons_zero, List.set_cons_succ])
    refine wpAnyH_ready (rs := [21]) (by kernel_rfl) (by simp) ?_
    refine AllReadyH.cons rfl (fun K hK => ?_) AllReadyH.nil
    go_simp
    refine hK.out _ _ (C4.out) (fun hHeld => ?_)
    clear hK
    (try simp only [Act.put, List.setIfInBounds_toArray, List.set_cons_zero, List.set_cons_succ])
    refine wpAnyH_done (by kernel_rfl) ?_ _
    clear hHeld
    go_wp2_with fail
    refine bodyPost_ret (v := .tuple #[.agg (plA (u1 : Int) (u2 : Int) hh), .int .i64 0]) (res_pl Tryz.results14 _ _ _ _ _ (w.heap.size + 1) rfl G1.out _ rfl) rfl ⟨by rw [HV2.out, HP.out, HC.out, HH.out], G2.out⟩
end Go.Proofs.YtndfhpfhgdamgaaGreatDoor
