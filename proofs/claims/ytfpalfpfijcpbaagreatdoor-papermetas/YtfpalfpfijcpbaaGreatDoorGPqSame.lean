import Derived.Test.YtfpalfpfijcpbaaGreatDoorPqParse
import Derived.Test.YtfpalfpfijcpbaaGreatDoorGPaRfQ
namespace Go.Proofs.YtfpalfpfijcpbaaGreatDoor
open Go.RowKit Go.Shelf
theorem fld_wrd {f : FD} {e : UInt8} (hsh : f.sh = 4) (he : f.en.data.toList = [e]) (l : List UInt8) :
    fldOk f l = (pfx f.wd l && (!(wordL (l.drop f.wd.size)).isEmpty && pfx f.en (l.drop (f.wd.size + (wordL (l.drop f.wd.size)).length)))) ∧ fldN f l = f.wd.size + (wordL (l.drop f.wd.size)).length + 1 ∧ (fldV f l).2 = strOf (wordL (l.drop f.wd.size)) := by
  have hes : f.en.size = 1 := by rw [← size_data, he]; rfl
  refine ⟨?_, ?_, ?_⟩
  · unfold fldOk fldW; rw [hsh, List.drop_drop]; rfl
  · unfold fldN fldW; rw [hes]
  · unfold fldV fldW; rw [hsh]; rfl
/-- a word more, the document's way -/
theorem st_wrd {tx : ByteArray} {q : RpS} {P : Nat} {B : Bool} {f : FD} {e : UInt8} {y : ByteArray} (hsh : f.sh = 4) (he : f.en.data.toList = [e])
    (h : q.bad = !(B && pfx f.wd (tx.data.toList.drop P))) (ha : (B && pfx f.wd (tx.data.toList.drop P)) = true → q.a = P + f.wd.size) :
    (rLit (f.en ++ y) tx (rWrd tx q)).bad = !((B && fldOk f (tx.data.toList.drop P)) && pfx y (tx.data.toList.drop (P + fldN f (tx.data.toList.drop P)))) ∧
    (((B && fldOk f (tx.data.toList.drop P)) && pfx y (tx.data.toList.drop (P + fldN f (tx.data.toList.drop P)))) = true → (rLit (f.en ++ y) tx (rWrd tx q)).a = P + fldN f (tx.data.toList.drop P) + y.size) ∧
    ((B && fldOk f (tx.data.toList.drop P)) = true → strOf (wordL (tx.data.toList.drop q.a)) = (fldV f (tx.data.toList.drop P)).2) := by
  obtain ⟨f1, f2, f3⟩ := fld_wrd hsh he (tx.data.toList.drop P)
  cases hB : (B && pfx f.wd (tx.data.toList.drop P)) with
  | false =>
    have hF : (B && fldOk f (tx.data.toList.drop P)) = false := by
      rw [f1, ← Bool.and_assoc, hB]; rfl
    rw [hB] at h
    have hb : (rWrd tx q).bad = true := by show (q.bad || _) = true; rw [h]; rfl
    have hr : rlOk (f.en ++ y) tx (rWrd tx q).a (rWrd tx q).bad = false := by rw [hb]; rfl
    rw [hF]
    refine ⟨?_, (by intro z; cases z), (by intro z; cases z)⟩
    show (!rlOk (f.en ++ y) tx (rWrd tx q).a (rWrd tx q).bad) = _
    rw [hr]; rfl
  | true =>
    have hq := ha hB
    rw [hB] at h
    have hqb : q.bad = false := h
    rw [Bool.and_eq_true] at hB
    rw [hB.1, Bool.true_and]
    rw [hB.2, Bool.true_and, List.drop_drop, List.drop_drop] at f1
    rw [List.drop_drop] at f2 f3
    have hn : (rWrd tx q).a = P + (f.wd.size + (wordL (tx.data.toList.drop (P + f.wd.size))).length) ∧ (rWrd tx q).bad = (wordL (tx.data.toList.drop (P + f.wd.size))).isEmpty := by
      refine ⟨?_, ?_⟩
      · show q.a + _ = _; rw [hq]; omega
      · show (q.bad || _) = _; rw [hqb, hq]; rfl
    have hes : f.en.size = 1 := by rw [← size_data, he]; rfl
    have hok : rlOk (f.en ++ y) tx (rWrd tx q).a (rWrd tx q).bad = (fldOk f (tx.data.toList.drop P) && pfx y (tx.data.toList.drop (P + fldN f (tx.data.toList.drop P)))) := by
      unfold rlOk
      rw [hn.1, hn.2, pfx_app, ← Bool.and_assoc, ← f1, List.drop_drop, hes, f2]
      rfl
    refine ⟨?_, fun z => ?_, fun z => ?_⟩
    · show (!rlOk (f.en ++ y) tx (rWrd tx q).a (rWrd tx q).bad) = _
      rw [hok]
    · show rlA (f.en ++ y) tx (rWrd tx q).a (rWrd tx q).bad = _
      rw [rlA_ok (by rw [hok]; exact z), hn.1, ByteArray.size_append, hes, f2]
      omega
    · rw [f3, hq]
def mW0 : ByteArray := ⟨#[115, 116, 111, 114, 101, 32]⟩
def mW1 : ByteArray := ⟨#[118, 101, 114, 115, 105, 111, 110, 32]⟩
def mW2 : ByteArray := ⟨#[110, 111, 100, 101, 32]⟩
def mW3 : ByteArray := ⟨#[112, 97, 114, 116, 115, 32]⟩
def mW4 : ByteArray := ⟨#[114, 101, 112, 108, 105, 99, 97, 115, 32]⟩
def mW5 : ByteArray := ⟨#[119, 105, 100, 116, 104, 32]⟩
def mW6 : ByteArray := ⟨#[99, 104, 117, 110, 107, 115, 32]⟩
def mW7 : ByteArray := ⟨#[114, 111, 119, 115, 32]⟩
/-- the program reads what the document reads -/
theorem meta_same (tx : ByteArray) : (k17 tx).bad = !rpForm metaTitle tx (metaFDs 0) ∧ (rpForm metaTitle tx (metaFDs 0) = true → (k17 tx).a = rpA metaTitle tx (metaFDs 0) ∧ mSt tx = vT (metaVs tx) 0 ∧ mV tx 1 = vN (metaVs tx) 1 ∧ mV tx 2 = vN (metaVs tx) 2 ∧ mV tx 3 = vN (metaVs tx) 3 ∧ mV tx 4 = vN (metaVs tx) 4 ∧ mV tx 5 = vN (metaVs tx) 5 ∧ mV tx 6 = vN (metaVs tx) 6 ∧ mV tx 7 = vN (metaVs tx) 7) := by
  obtain ⟨f0, f1, f2, f3, f4, f5, f6, f7, hfs⟩ : ∃ f0 f1 f2 f3 f4 f5 f6 f7, metaFDs 0 = [f0, f1, f2, f3, f4, f5, f6, f7] ∧ (f0.wd = mW0 ∧ f1.wd = mW1 ∧ f2.wd = mW2 ∧ f3.wd = mW3 ∧ f4.wd = mW4 ∧ f5.wd = mW5 ∧ f6.wd = mW6 ∧ f7.wd = mW7) ∧ (f0.sh = 4 ∧ f1.sh = 0 ∧ f2.sh = 0 ∧ f3.sh = 0 ∧ f4.sh = 0 ∧ f5.sh = 0 ∧ f6.sh = 0 ∧ f7.sh = 0) ∧ (f0.en = nl ∧ f1.en = nl ∧ f2.en = nl ∧ f3.en = nl ∧ f4.en = nl ∧ f5.en = nl ∧ f6.en = nl ∧ f7.en = nl) := ⟨_, _, _, _, _, _, _, _, rfl, ⟨rfl, rfl, rfl, rfl, rfl, rfl, rfl, rfl⟩, ⟨rfl, rfl, rfl, rfl, rfl, rfl, rfl, rfl⟩, ⟨rfl, rfl, rfl, rfl, rfl, rfl, rfl, rfl⟩⟩
  obtain ⟨hF, ⟨w0, w1, w2, w3, w4, w5, w6, w7⟩, ⟨s0, s1, s2, s3, s4, s5, s6, s7⟩, ⟨n0, n1, n2, n3, n4, n5, n6, n7⟩⟩ := hfs
  have hnl : nl.data.toList = [10] := rfl
  obtain ⟨P0, hP0⟩ : ∃ P, P = metaTitle.size := ⟨_, rfl⟩
  obtain ⟨P1, hP1⟩ : ∃ P, P = P0 + fldN f0 (tx.data.toList.drop P0) := ⟨_, rfl⟩
  obtain ⟨P2, hP2⟩ : ∃ P, P = P1 + fldN f1 (tx.data.toList.drop P1) := ⟨_, rfl⟩
  obtain ⟨P3, hP3⟩ : ∃ P, P = P2 + fldN f2 (tx.data.toList.drop P2) := ⟨_, rfl⟩
  obtain ⟨P4, hP4⟩ : ∃ P, P = P3 + fldN f3 (tx.data.toList.drop P3) := ⟨_, rfl⟩
  obtain ⟨P5, hP5⟩ : ∃ P, P = P4 + fldN f4 (tx.data.toList.drop P4) := ⟨_, rfl⟩
  obtain ⟨P6, hP6⟩ : ∃ P, P = P5 + fldN f5 (tx.data.toList.drop P5) := ⟨_, rfl⟩
  obtain ⟨P7, hP7⟩ : ∃ P, P = P6 + fldN f6 (tx.data.toList.drop P6) := ⟨_, rfl⟩
  obtain ⟨P8, hP8⟩ : ∃ P, P = P7 + fldN f7 (tx.data.toList.drop P7) := ⟨_, rfl⟩
  have hForm : rpForm metaTitle tx (metaFDs 0) = (pfx metaTitle tx.data.toList && (fldOk f0 (tx.data.toList.drop P0) && (fldOk f1 (tx.data.toList.drop P1) && (fldOk f2 (tx.data.toList.drop P2) && (fldOk f3 (tx.data.toList.drop P3) && (fldOk f4 (tx.data.toList.drop P4) && (fldOk f5 (tx.data.toList.drop P5) && (fldOk f6 (tx.data.toList.drop P6) && (fldOk f7 (tx.data.toList.drop P7)))))))))) := by
    unfold rpForm
    rw [hF, ← hP0]
    simp only [tabOk, List.drop_drop, ← hP1, ← hP2, ← hP3, ← hP4, ← hP5, ← hP6, ← hP7, Bool.and_true]
  have hA : rpA metaTitle tx (metaFDs 0) = P8 := by
    unfold rpA
    rw [hF, ← hP0]
    simp only [tabN, List.drop_drop, ← hP1, ← hP2, ← hP3, ← hP4, ← hP5, ← hP6, ← hP7]
    omega
  have hVs : metaVs tx = [fldV f0 (tx.data.toList.drop P0), fldV f1 (tx.data.toList.drop P1), fldV f2 (tx.data.toList.drop P2), fldV f3 (tx.data.toList.drop P3), fldV f4 (tx.data.toList.drop P4), fldV f5 (tx.data.toList.drop P5), fldV f6 (tx.data.toList.drop P6), fldV f7 (tx.data.toList.drop P7)] := by
    unfold metaVs rpVs
    rw [hF, ← hP0]
    simp only [tabVs, List.drop_drop, ← hP1, ← hP2, ← hP3, ← hP4, ← hP5, ← hP6, ← hP7]
  have a1 : (k1 tx).bad = !(pfx metaTitle tx.data.toList && pfx f0.wd (tx.data.toList.drop P0)) ∧ ((pfx metaTitle tx.data.toList && pfx f0.wd (tx.data.toList.drop P0)) = true → (k1 tx).a = P0 + f0.wd.size) := by
    have e : mS0 = metaTitle ++ mW0 := by decide
    have e2 : rlOk mS0 tx 0 false = (pfx metaTitle tx.data.toList && pfx f0.wd (tx.data.toList.drop P0)) := by
      unfold rlOk; rw [e, pfx_app, List.drop_zero, w0, ← hP0]; rfl
    refine ⟨?_, fun h => ?_⟩
    · show (!rlOk mS0 tx 0 false) = _; rw [e2]
    · show rlA mS0 tx 0 false = _; rw [rlA_ok (by rw [e2]; exact h), e, ByteArray.size_append, w0, ← hP0]; omega
  have b0 := st_wrd (y := mW1) s0 (by rw [n0]; exact hnl) a1.1 a1.2
  rw [← hP1, n0, show nl ++ mW1 = mS1 from by decide, ← w1] at b0
  have b1 := st_num (y := mW2) s1 (by rw [n1]; exact hnl) rfl rfl b0.1 b0.2.1
  rw [← hP2, n1, show nl ++ mW2 = mS2 from by decide, ← w2] at b1
  have b2 := st_num (y := mW3) s2 (by rw [n2]; exact hnl) rfl rfl b1.1 b1.2.1
  rw [← hP3, n2, show nl ++ mW3 = mS3 from by decide, ← w3] at b2
  have b3 := st_num (y := mW4) s3 (by rw [n3]; exact hnl) rfl rfl b2.1 b2.2.1
  rw [← hP4, n3, show nl ++ mW4 = mS4 from by decide, ← w4] at b3
  have b4 := st_num (y := mW5) s4 (by rw [n4]; exact hnl) rfl rfl b3.1 b3.2.1
  rw [← hP5, n4, show nl ++ mW5 = mS5 from by decide, ← w5] at b4
  have b5 := st_num (y := mW6) s5 (by rw [n5]; exact hnl) rfl rfl b4.1 b4.2.1
  rw [← hP6, n5, show nl ++ mW6 = mS6 from by decide, ← w6] at b5
  have b6 := st_num (y := mW7) s6 (by rw [n6]; exact hnl) rfl rfl b5.1 b5.2.1
  rw [← hP7, n6, show nl ++ mW7 = mS7 from by decide, ← w7] at b6
  have b7 := st_num (y := ⟨#[]⟩) s7 (by rw [n7]; exact hnl) rfl rfl b6.1 b6.2.1
  rw [← hP8, n7, show nl ++ ⟨#[]⟩ = nl from by decide, empty_pfx, Bool.and_true] at b7
  have hFm : rpForm metaTitle tx (metaFDs 0) = ((((((((pfx metaTitle tx.data.toList && fldOk f0 (tx.data.toList.drop P0)) && fldOk f1 (tx.data.toList.drop P1)) && fldOk f2 (tx.data.toList.drop P2)) && fldOk f3 (tx.data.toList.drop P3)) && fldOk f4 (tx.data.toList.drop P4)) && fldOk f5 (tx.data.toList.drop P5)) && fldOk f6 (tx.data.toList.drop P6)) && fldOk f7 (tx.data.toList.drop P7)) := by
    rw [hForm]; simp only [Bool.and_assoc]
  refine ⟨by rw [hFm]; exact b7.1, fun h => ?_⟩
  rw [hFm] at h
  have g8 := h
  have g7 : (((((((pfx metaTitle tx.data.toList && fldOk f0 (tx.data.toList.drop P0)) && fldOk f1 (tx.data.toList.drop P1)) && fldOk f2 (tx.data.toList.drop P2)) && fldOk f3 (tx.data.toList.drop P3)) && fldOk f4 (tx.data.toList.drop P4)) && fldOk f5 (tx.data.toList.drop P5)) && fldOk f6 (tx.data.toList.drop P6)) = true := (Bool.and_eq_true _ _ ▸ g8).1
  have g6 : ((((((pfx metaTitle tx.data.toList && fldOk f0 (tx.data.toList.drop P0)) && fldOk f1 (tx.data.toList.drop P1)) && fldOk f2 (tx.data.toList.drop P2)) && fldOk f3 (tx.data.toList.drop P3)) && fldOk f4 (tx.data.toList.drop P4)) && fldOk f5 (tx.data.toList.drop P5)) = true := (Bool.and_eq_true _ _ ▸ g7).1
  have g5 : (((((pfx metaTitle tx.data.toList && fldOk f0 (tx.data.toList.drop P0)) && fldOk f1 (tx.data.toList.drop P1)) && fldOk f2 (tx.data.toList.drop P2)) && fldOk f3 (tx.data.toList.drop P3)) && fldOk f4 (tx.data.toList.drop P4)) = true := (Bool.and_eq_true _ _ ▸ g6).1
  have g4 : ((((pfx metaTitle tx.data.toList && fldOk f0 (tx.data.toList.drop P0)) && fldOk f1 (tx.data.toList.drop P1)) && fldOk f2 (tx.data.toList.drop P2)) && fldOk f3 (tx.data.toList.drop P3)) = true := (Bool.and_eq_true _ _ ▸ g5).1
  have g3 : (((pfx metaTitle tx.data.toList && fldOk f0 (tx.data.toList.drop P0)) && fldOk f1 (tx.data.toList.drop P1)) && fldOk f2 (tx.data.toList.drop P2)) = true := (Bool.and_eq_true _ _ ▸ g4).1
  have g2 : ((pfx metaTitle tx.data.toList && fldOk f0 (tx.data.toList.drop P0)) && fldOk f1 (tx.data.toList.drop P1)) = true := (Bool.and_eq_true _ _ ▸ g3).1
  have g1 : (pfx metaTitle tx.data.toList && fldOk f0 (tx.data.toList.drop P0)) = true := (Bool.and_eq_true _ _ ▸ g2).1
  refine ⟨?_, ?_, ?_, ?_, ?_, ?_, ?_, ?_, ?_⟩
  · rw [hA]; exact b7.2.1 g8
  · unfold vT; rw [hVs]; exact b0.2.2 g1
  · unfold vN; rw [hVs]; exact b1.2.2 g2
  · unfold vN; rw [hVs]; exact b2.2.2 g3
  · unfold vN; rw [hVs]; exact b3.2.2 g4
  · unfold vN; rw [hVs]; exact b4.2.2 g5
  · unfold vN; rw [hVs]; exact b5.2.2 g6
  · unfold vN; rw [hVs]; exact b6.2.2 g7
  · unfold vN; rw [hVs]; exact b7.2.2 g8
theorem meta_err (tx : ByteArray) : rmErr tx = metaPE tx ∧ rmT tx = metaPT tx ∧ rmV tx 1 = metaPV tx 1 ∧ rmV tx 2 = metaPV tx 2 ∧ rmV tx 3 = metaPV tx 3 ∧ rmV tx 4 = metaPV tx 4 ∧ rmV tx 5 = metaPV tx 5 ∧ rmV tx 6 = metaPV tx 6 ∧ rmV tx 7 = metaPV tx 7 := by
  obtain ⟨h1, h2⟩ := meta_same tx
  have hE : rmErr tx = metaPE tx := by
    unfold rmErr metaPE rpE rmL lstE
    cases hf : rpForm metaTitle tx (metaFDs 0) with
    | false =>
      rw [hf] at h1
      rw [h1]
      rfl
    | true =>
      obtain ⟨g0, g, g1, g2, g3, g4, g5, g6, g7⟩ := h2 hf
      rw [hf] at h1
      have hM : metaE (mSt tx) (mV tx) = if metaOk (vT (metaVs tx) 0) (vN (metaVs tx)) = true then 0 else 42 := by
        unfold metaE metaOk
        rw [g, g1, g2, g3, g4, g5, g6, g7]
      rw [h1, g0, hM]
      rfl
  have hform : metaPE tx = 0 → rpForm metaTitle tx (metaFDs 0) = true := fun hz => by
    cases hf : rpForm metaTitle tx (metaFDs 0) with
    | true => rfl
    | false =>
      unfold metaPE rpE at hz
      rw [hf] at hz
      simp at hz
  have hV : ∀ v i, (rpForm metaTitle tx (metaFDs 0) = true → v = vN (metaVs tx) i) → (if rmErr tx = 0 then v else 0) = metaPV tx i := fun v i hv => by
    unfold metaPV
    rw [hE]
    by_cases hz : metaPE tx = 0
    · rw [if_pos hz, if_pos hz]; exact hv (hform hz)
    · rw [if_neg hz, if_neg hz]
  refine ⟨hE, ?_, ?_, ?_, ?_, ?_, ?_, ?_, ?_⟩
  · unfold rmT metaPT
    rw [hE]
    by_cases hz : metaPE tx = 0
    · rw [if_pos hz, if_pos hz]; exact (h2 (hform hz)).2.1
    · rw [if_neg hz, if_neg hz]
  · exact hV _ 1 (fun h => (h2 h).2.2.1)
  · exact hV _ 2 (fun h => (h2 h).2.2.2.1)
  · exact hV _ 3 (fun h => (h2 h).2.2.2.2.1)
  · exact hV _ 4 (fun h => (h2 h).2.2.2.2.2.1)
  · exact hV _ 5 (fun h => (h2 h).2.2.2.2.2.2.1)
  · exact hV _ 6 (fun h => (h2 h).2.2.2.2.2.2.2.1)
  · exact hV _ 7 (fun h => (h2 h).2.2.2.2.2.2.2.2)
end Go.Proofs.YtfpalfpfijcpbaaGreatDoor
namespace Go.Proofs.YtfpalfpfijcpbaaGreatDoor
open Go.RowKit Go.Shelf
set_option maxHeartbeats 4000000 in
set_option maxRecDepth 100000 in
theorem metaAnswers_any (tx : ByteArray) (w : World) (htx : tx.size < 9223372036854775808) (hT4 : Tab4 0 w) :
    Calls Tryz.prog 21 #[.string tx] w fun e w' => e = .returned (.bool true) ∧ Below w.heap.size w w' := by
  have C1 := hide (parseMeta_any tx w htx hT4)
  have C2 := hide (fun w' => rparseMeta_any tx w' htx)
  obtain ⟨e0, e, e1, e2, e3, e4, e5, e6, e7⟩ := meta_err tx
  unfold metaCells at C1 C2
  rw [e0, e, e1, e2, e3, e4, e5, e6, e7] at C2
  clear e0 e e1 e2 e3 e4 e5 e6 e7
  generalize metaPT tx = A0 at *
  generalize metaPV tx 1 = A1 at *
  generalize metaPV tx 2 = A2 at *
  generalize metaPV tx 3 = A3 at *
  generalize metaPV tx 4 = A4 at *
  generalize metaPV tx 5 = A5 at *
  generalize metaPV tx 6 = A6 at *
  generalize metaPV tx 7 = A7 at *
  generalize metaPE tx = E at *
  go_enter Tryz.func21, Tryz.ntmps21
  go_wp2_with fail
  refine Calls.mono C1.out ?_
  rintro e w1 ⟨rfl, b1⟩
  have B1 := hide b1
  clear b1 C1
  obtain ⟨Wm, hWm⟩ : ∃ Wm, Wm = w1.alloc (.cells #[.string A0, .int .i64 A1, .int .i64 A2, .int .i64 A3, .int .i64 A4, .int .i64 A5, .int .i64 A6, .int .i64 A7] 23) := ⟨_, rfl⟩
  have bm : Below w1.heap.size w1 Wm := by rw [hWm]; exact (Below.refl _ _).alloc (Nat.le_refl _) _
  have sm : w1.heap.size < Wm.heap.size := by rw [hWm]; simp
  have km : Hid (∀ w', Below Wm.heap.size Wm w' → w'.cell? ⟨w1.heap.size, 0, none⟩ = some (.string A0) ∧ w'.cell? ⟨w1.heap.size, 1, none⟩ = some (.int .i64 A1) ∧ w'.cell? ⟨w1.heap.size, 2, none⟩ = some (.int .i64 A2) ∧ w'.cell? ⟨w1.heap.size, 3, none⟩ = some (.int .i64 A3) ∧ w'.cell? ⟨w1.heap.size, 4, none⟩ = some (.int .i64 A4) ∧ w'.cell? ⟨w1.heap.size, 5, none⟩ = some (.int .i64 A5) ∧ w'.cell? ⟨w1.heap.size, 6, none⟩ = some (.int .i64 A6) ∧ w'.cell? ⟨w1.heap.size, 7, none⟩ = some (.int .i64 A7)) := fun w' hb => by
    rw [hb.cell (by exact sm), hb.cell (by exact sm), hb.cell (by exact sm), hb.cell (by exact sm), hb.cell (by exact sm), hb.cell (by exact sm), hb.cell (by exact sm), hb.cell (by exact sm), hWm]
    exact ⟨by simp, by simp, by simp, by simp, by simp, by simp, by simp, by simp⟩
  have BM := hide bm
  clear bm
  go_wp2_with fail
  rw [← hWm]
  clear hWm
  refine Calls.mono (C2.out _) ?_
  rintro e w2 ⟨rfl, b2⟩
  obtain ⟨j0, j1, j2, j3, j4, j5, j6, j7⟩ := km.out _ b2
  have hl2 : w1.heap.size < w2.heap.size := Nat.lt_of_lt_of_le sm b2.size
  have B2 := hide ((B1.out.trans (BM.out.mono B1.out.size)).trans (b2.mono (B1.out.trans (BM.out.mono B1.out.size)).size))
  clear b2 C2 km
  go_wp2_with fail
  refine Calls.mono (pnum_any _ _) ?_
  rintro e w3 ⟨rfl, rfl⟩
  go_wp2_with fail
  go_ret
  exact ⟨rfl, B2.out.alloc B2.out.size _⟩
set_option maxHeartbeats 4000000 in
set_option maxRecDepth 100000 in
/-- the law PaperMetas -/
theorem metas_any (st : ByteArray) (n1 n2 n3 n4 n5 n6 n7 : Int) (hst : st.size ≤ 9223372036854775807) (hn : ∀ i, I64 (mN n1 n2 n3 n4 n5 n6 n7 i)) (tx : ByteArray) (w : World) (htx : tx.size < 9223372036854775808) (hT4 : Tab4 0 w) (hP : Pow w) :
    Calls Tryz.prog 4 #[.agg #[.string st, .int .i64 n1, .int .i64 n2, .int .i64 n3, .int .i64 n4, .int .i64 n5, .int .i64 n6, .int .i64 n7], .string tx] w fun x w' => x = .returned (.bool true) ∧ Below w.heap.size w w' := by
  have hz := metaS_len st (mN n1 n2 n3 n4 n5 n6 n7) hn
  obtain ⟨W0, hW0⟩ : ∃ W0, W0 = w.alloc (.cells #[.string st, .int .i64 n1, .int .i64 n2, .int .i64 n3, .int .i64 n4, .int .i64 n5, .int .i64 n6, .int .i64 n7] 23) := ⟨_, rfl⟩
  have b0 : Below w.heap.size w W0 := by rw [hW0]; exact (Below.refl _ w).alloc (Nat.le_refl _) _
  have s0 : w.heap.size < W0.heap.size := by rw [hW0]; simp
  have km : Hid (∀ w', Below W0.heap.size W0 w' → w'.cell? ⟨w.heap.size, 0, none⟩ = some (.string st) ∧ w'.cell? ⟨w.heap.size, 1, none⟩ = some (.int .i64 n1) ∧ w'.cell? ⟨w.heap.size, 2, none⟩ = some (.int .i64 n2) ∧ w'.cell? ⟨w.heap.size, 3, none⟩ = some (.int .i64 n3) ∧ w'.cell? ⟨w.heap.size, 4, none⟩ = some (.int .i64 n4) ∧ w'.cell? ⟨w.heap.size, 5, none⟩ = some (.int .i64 n5) ∧ w'.cell? ⟨w.heap.size, 6, none⟩ = some (.int .i64 n6) ∧ w'.cell? ⟨w.heap.size, 7, none⟩ = some (.int .i64 n7)) := fun w' hb => by
    rw [hb.cell (by exact s0), hb.cell (by exact s0), hb.cell (by exact s0), hb.cell (by exact s0), hb.cell (by exact s0), hb.cell (by exact s0), hb.cell (by exact s0), hb.cell (by exact s0), hW0]
    exact ⟨by simp, by simp, by simp, by simp, by simp, by simp, by simp, by simp⟩
  have C1 : Hid (Calls Tryz.prog 10 #[.agg #[.string st, .int .i64 n1, .int .i64 n2, .int .i64 n3, .int .i64 n4, .int .i64 n5, .int .i64 n6, .int .i64 n7]] W0 fun x w' => x = .returned (.tuple #[.string (metaS st (mN n1 n2 n3 n4 n5 n6 n7)), .int .i64 (metaE st (mN n1 n2 n3 n4 n5 n6 n7))]) ∧ Below W0.heap.size W0 w') := printMeta_any st (mN n1 n2 n3 n4 n5 n6 n7) hst hn W0 (hP.below b0) (hT4.below b0 hT4.lt)
  have C2 := hide (fun w' (hb : Below w.heap.size w w') => rprintMeta_any st n1 n2 n3 n4 n5 n6 n7 hn w' (hP.below hb))
  have C3 := hide (fun w' (hb : Below w.heap.size w w') => metaAnswers_any tx w' htx (hT4.below hb hT4.lt))
  have C4 := hide (fun w' (hb : Below w.heap.size w w') => metaAnswers_any (metaS st (mN n1 n2 n3 n4 n5 n6 n7)) w' hz (hT4.below hb hT4.lt))
  generalize metaS st (mN n1 n2 n3 n4 n5 n6 n7) = S at *
  generalize metaE st (mN n1 n2 n3 n4 n5 n6 n7) = E at *
  have B0 := hide b0
  clear hT4 hP b0 hn hz hst
  go_enter Tryz.func4, Tryz.ntmps4
  go_wp2_with fail
  rw [← hW0]
  clear hW0
  refine Calls.mono C1.out ?_
  rintro x w1 ⟨rfl, b1⟩
  obtain ⟨j0, j1, j2, j3, j4, j5, j6, j7⟩ := km.out _ b1
  have B1 := hide (B0.out.trans (b1.mono B0.out.size))
  have D2 := hide (C2.out w1 B1.out)
  clear b1 C1 C2 km
  go_wp2_with fail
  refine Calls.mono D2.out ?_
  rintro x w2 ⟨rfl, b2⟩
  have B2 := hide (B1.out.trans (b2.mono B1.out.size))
  have D3 := hide (C3.out w2 B2.out)
  clear b2 D2 C3 j0 j1 j2 j3 j4 j5 j6 j7
  go_wp2_with fail
  refine Calls.mono (pnum_any _ _) ?_
  rintro x w3 ⟨rfl, rfl⟩
  go_wp2_with fail
  refine Calls.mono D3.out ?_
  rintro x w4 ⟨rfl, b4⟩
  have B4 := hide (B2.out.trans (b4.mono B2.out.size))
  have D4 := hide (C4.out w4 B4.out)
  clear b4 D3 C4
  go_wp2_with fail
  refine Calls.mono D4.out ?_
  rintro x w5 ⟨rfl, b5⟩
  have B5 := hide (B4.out.trans (b5.mono B4.out.size))
  clear b5 D4
  go_wp2_with fail
  go_ret
  exact ⟨rfl, B5.out⟩
end Go.Proofs.YtfpalfpfijcpbaaGreatDoor
