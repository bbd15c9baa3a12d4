import Derived.Test.YtmmcpcgnbffnjaaDoorDrSmall
import Derived.Deep.QuietTactic
import Derived.BigQuiet
namespace Go.Proofs.YtmmcpcgnbffnjaaDoor
open Go.RowKit
theorem ix_get (s : ByteArray) (k : Nat) (i : Int) (hi : i = (k : Int)) (hk : k < s.size) (w : World) : (Instr.index 9 (.string s) (.int .i64 i)).run Tryd.prog w = .ok (.int .u8 ((s.data.toList.getD k 0).toNat : Int)) w := by
  rw [ix_at w s k i hi hk, List.getD_eq_getElem?_getD, List.getElem?_eq_getElem (by rw [size_data]; exact hk)]
  rfl
set_option maxHeartbeats 1000000 in
set_option maxRecDepth 100000 in
/-- the document's four -/
theorem rfour_any (s : ByteArray) (a : Nat) (w : World) (ha : a + 4 ≤ s.size) (hs : s.size ≤ 1099511627776) :
    Calls Tryd.prog 38 #[.string s, .int .i64 (a : Int)] w fun e w' => e = .returned (.int .i64 (le4 s.data.toList a : Int)) ∧ Below w.heap.size w w' := by
  have x0 := ix_get s a (a : Int) rfl (by omega)
  have x1 := ix_get s (a + 1) ((a : Int) + 1) (by omega) (by omega)
  have x2 := ix_get s (a + 2) ((a : Int) + 2) (by omega) (by omega)
  have x3 := ix_get s (a + 3) ((a : Int) + 3) (by omega) (by omega)
  have hv : le4 s.data.toList a = (s.data.toList.getD a 0).toNat + 256 * (s.data.toList.getD (a + 1) 0).toNat + 65536 * (s.data.toList.getD (a + 2) 0).toNat + 16777216 * (s.data.toList.getD (a + 3) 0).toNat := rfl
  have b0 := (s.data.toList.getD a 0).toNat_lt
  have b1 := (s.data.toList.getD (a + 1) 0).toNat_lt
  have b2 := (s.data.toList.getD (a + 2) 0).toNat_lt
  have b3 := (s.data.toList.getD (a + 3) 0).toNat_lt
  generalize (s.data.toList.getD a 0).toNat = v0 at *
  generalize (s.data.toList.getD (a + 1) 0).toNat = v1 at *
  generalize (s.data.toList.getD (a + 2) 0).toNat = v2 at *
  generalize (s.data.toList.getD (a + 3) 0).toNat = v3 at *
  have HV : Hid ((le4 s.data.toList a : Int) = (v0 : Int) + 256 * (v1 : Int) + 65536 * (v2 : Int) + 16777216 * (v3 : Int)) := by show _ = _; rw [hv]; omega
  clear hv
  have w1 : IntKind.i64.wrap ((a : Int) + 1) = (a : Int) + 1 := i64_inI (by omega) (by omega)
  have w2 : IntKind.i64.wrap ((a : Int) + 2) = (a : Int) + 2 := i64_inI (by omega) (by omega)
  have w3 : IntKind.i64.wrap ((a : Int) + 3) = (a : Int) + 3 := i64_inI (by omega) (by omega)
  have u0 : IntKind.i64.wrap (v0 : Int) = (v0 : Int) := i64_in63 (by omega)
  have u1 : IntKind.i64.wrap (v1 : Int) = (v1 : Int) := i64_in63 (by omega)
  have u2 : IntKind.i64.wrap (v2 : Int) = (v2 : Int) := i64_in63 (by omega)
  have u3 : IntKind.i64.wrap (v3 : Int) = (v3 : Int) := i64_in63 (by omega)
  have m1 : IntKind.i64.wrap (256 * (v1 : Int)) = 256 * (v1 : Int) := i64_inI (by omega) (by omega)
  have m2 : IntKind.i64.wrap (65536 * (v2 : Int)) = 65536 * (v2 : Int) := i64_inI (by omega) (by omega)
  have m3 : IntKind.i64.wrap (16777216 * (v3 : Int)) = 16777216 * (v3 : Int) := i64_inI (by omega) (by omega)
  have s1 : IntKind.i64.wrap ((v0 : Int) + 256 * (v1 : Int)) = (v0 : Int) + 256 * (v1 : Int) := i64_inI (by omega) (by omega)
  have s2 : IntKind.i64.wrap ((v0 : Int) + 256 * (v1 : Int) + 65536 * (v2 : Int)) = (v0 : Int) + 256 * (v1 : Int) + 65536 * (v2 : Int) := i64_inI (by omega) (by omega)
  have s3 : IntKind.i64.wrap ((v0 : Int) + 256 * (v1 : Int) + 65536 * (v2 : Int) + 16777216 * (v3 : Int)) = (v0 : Int) + 256 * (v1 : Int) + 65536 * (v2 : Int) + 16777216 * (v3 : Int) := i64_inI (by omega) (by omega)
  go_enter Tryd.func38, Tryd.ntmps38
  go_wp2_with fail
  go_quiet (fail)
  go_wp2
  go_ret
  exact ⟨by rw [HV.out]; rfl, ⟨rfl, rfl, rfl, Nat.le_refl _, fun _ _ => rfl⟩⟩
end Go.Proofs.YtmmcpcgnbffnjaaDoor
