import Derived.Test.YtaclbffacnoddaaGreatDoorPart13
import Derived.Test.YtaclbffacnoddaaGreatDoorPart11
namespace Go.Proofs.YtaclbffacnoddaaGreatDoor
open Go.RowKit Go.Shelf
theorem strOf_append (a b : List UInt8) : strOf (a ++ b) = strOf a ++ strOf b := by
  rw [← strOf_toList (strOf a ++ strOf b)]
  congr 1
theorem ba_eq {a b : ByteArray} (h : a.data.toList = b.data.toList) : a = b := by rw [← strOf_toList a, h, strOf_toList]
theorem ba_app (a b : ByteArray) : (a ++ b).data.toList = a.data.toList ++ b.data.toList := by simp
theorem seal_eq (s : ByteArray) (c : Nat) : s ++ ⟨#[115, 117, 109, 32]⟩ ++ strOf (hexL (be4 c)) ++ ⟨#[10]⟩ = s ++ strOf (sealL sumWd c) := by
  apply ba_eq
  simp only [ba_app, strOf_data, sealL, List.append_assoc]
  rfl
theorem ret_s {a b : ByteArray} (h : a = b) : Ending.returned (.string a) = .returned (.string b) := by rw [h]
set_option maxHeartbeats 1000000 in
set_option maxRecDepth 100000 in
theorem closed_any (s : ByteArray) (w : World) (hs : s.size ≤ 70368744177664) :
    Calls Tryz.prog 31 #[.string s] w fun e w' => e = .returned (.string (s ++ strOf (sealL sumWd (crcN 0 s.data.toList)))) ∧ Below w.heap.size w w' := by
  have C1 := hide (rcrc_any s w (by omega))
  have hlt : crcN 0 s.data.toList < 4294967296 := crcN_lt _ (by omega)
  have C2 := hide (fun w' => eight_any (crcN 0 s.data.toList) hlt w')
  have HE := hide (seal_eq s (crcN 0 s.data.toList))
  have hE : (strOf (hexL (be4 (crcN 0 s.data.toList)))).size = 8 := by rw [strOf_size, hexL_len]; rfl
  generalize strOf (sealL sumWd (crcN 0 s.data.toList)) = SL at *
  generalize strOf (hexL (be4 (crcN 0 s.data.toList))) = E at *
  generalize crcN 0 s.data.toList = c at *
  go_enter Tryz.func31, Tryz.ntmps31
  go_wp2_with fail
  refine Calls.mono C1.out ?_
  rintro e w1 ⟨rfl, rfl⟩
  go_wp2_with fail
  refine Calls.mono (C2.out _) ?_
  rintro e w2 ⟨rfl, b2⟩
  have hE2 : (s ++ ⟨#[115, 117, 109, 32]⟩).size + E.size ≤ 9223372036854775807 := by rw [ByteArray.size_append, hE]; show s.size + 4 + 8 ≤ _; omega
  go_wp2_with fail
  go_ret
  exact ⟨ret_s HE.out, b2⟩
def pS1 : ByteArray := ⟨#[103, 114, 97, 110, 97, 114, 121, 32, 108, 97, 116, 101, 115, 116, 32, 49, 10, 99, 117, 114, 32]⟩
def pS2 : ByteArray := ⟨#[10, 112, 114, 101, 118, 32]⟩
def pS3 : ByteArray := ⟨#[10, 101, 112, 111, 99, 104, 32]⟩
def pS4 : ByteArray := ⟨#[10, 115, 101, 113, 32]⟩
theorem ptr_eq (c p e s : Int) : pS1 ++ itS c ++ pS2 ++ itS p ++ pS3 ++ itS e ++ pS4 ++ itS s ++ nl = ptrTitle ++ strOf (ptrL c p e s) := by
  apply ba_eq
  simp only [ba_app, strOf_data, itS, ptrL, List.append_assoc]
  rfl
end Go.Proofs.YtaclbffacnoddaaGreatDoor
namespace Go.Proofs.YtaclbffacnoddaaGreatDoor
open Go.RowKit Go.Shelf
theorem ret_si {a b : ByteArray} {c d : Int} (h1 : a = b) (h2 : c = d) : Ending.returned (.tuple #[.string a, .int .i64 c]) = .returned (.tuple #[.string b, .int .i64 d]) := by rw [h1, h2]
theorem note_eq (c p e : Int) (n : Nat) : itS c ++ bl ++ itS p ++ bl ++ itS e ++ bl ++ strOf (hexL (be4 n)) ++ bl = strOf (noteL c p e (n : Int)) := by
  apply ba_eq
  simp only [ba_app, strOf_data, itS, noteL, List.append_assoc, List.nil_append, Int.toNat_natCast]
  rfl
theorem nseal_eq (s : ByteArray) (c : Nat) : s ++ strOf (hexL (be4 c)) ++ nl = s ++ strOf (sealL ⟨#[]⟩ c) := by
  apply ba_eq
  simp only [ba_app, strOf_data, sealL, List.append_assoc]
  rfl
end Go.Proofs.YtaclbffacnoddaaGreatDoor
