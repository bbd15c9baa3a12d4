/-
  DERIVED. GIVEN WITH THE SEED: THE PROGRAM's TIES (one call each: nine closed facts by the kernel) AND EACH ROW's TIE, after the 31st guide's Derived/Test/Toyas{Tie, Card}.lean. No idea stands in it: it is a product of the set-up. Laid BY PROGRAM, IN A SANDBOX (cutbox-door.mjs). By AI agents, Wed Nov 11 2026. No macro, syntax, notation, axiom, sorry.
-/
import Derived.Test.YthlpklkdpggmkaaDoorRows
import Derived.LaidByTextLater
import Derived.SevenTiedAt
import Derived.LaidSub
import Derived.LaidOnce
namespace Go.Proofs.YthlpklkdpggmkaaDoor
open Go
set_option maxRecDepth 100000
theorem seatTie1 : Tryd.prog.laidByTextLater [("granary/granaryref5.fields", Rows.laid_granary_granaryref5_fields), ("granary/digest.fourSteps", Rows.laid_granary_digest_fourSteps), ("granary/frame.shapes", Rows.laid_granary_frame_shapes), ("granary/frame.heads", Rows.laid_granary_frame_heads), ("granary/frame.bodies", Rows.laid_granary_frame_bodies), ("granary/granarylaw5.kindHas", Rows.laid_granary_granarylaw5_kindHas)] [.data, .data, .data, .data, .data, .data] true :=
  Program.laidByTextLater_by_one 65 8 31 (by kernel_rfl) (by kernel_rfl) (by kernel_rfl) (by kernel_rfl) (by kernel_rfl) (by kernel_rfl) (fun _ _ => by kernel_rfl)
theorem noOwnUnsafe : Tryd.pinned.checked.prog.headLifts.contains "ownunsafe" = false := by kernel_rfl
theorem tie : Tryd.prog.laidByTextLater [("granary/digest.fourSteps", Rows.laid_granary_digest_fourSteps), ("granary/frame.shapes", Rows.laid_granary_frame_shapes), ("granary/frame.heads", Rows.laid_granary_frame_heads), ("granary/frame.bodies", Rows.laid_granary_frame_bodies)] [.data, .data, .data, .data] true :=
  Program.laidByTextLater.sub seatTie1 ["granary/digest.fourSteps", "granary/frame.shapes", "granary/frame.heads", "granary/frame.bodies"] (by kernel_rfl) (by kernel_rfl)
theorem frameCanon_row_tie : Rows.frameCanonRow.laidByTextAt .later Tryd.pinned [.data, .data, .data, .data] true :=
  OpenClaim.laidByTextAt_later rfl rfl tie noOwnUnsafe
theorem tie2 : Tryd.prog.laidByTextLater [("granary/digest.fourSteps", Rows.laid_granary_digest_fourSteps), ("granary/frame.shapes", Rows.laid_granary_frame_shapes), ("granary/frame.heads", Rows.laid_granary_frame_heads), ("granary/frame.bodies", Rows.laid_granary_frame_bodies), ("granary/granarylaw5.kindHas", Rows.laid_granary_granarylaw5_kindHas)] [.data, .data, .data, .data, .data] true :=
  Program.laidByTextLater.sub seatTie1 ["granary/digest.fourSteps", "granary/frame.shapes", "granary/frame.heads", "granary/frame.bodies", "granary/granarylaw5.kindHas"] (by kernel_rfl) (by kernel_rfl)
theorem frameBack_row_tie : Rows.frameBackRow.laidByTextAt .later Tryd.pinned [.data, .data, .data, .data, .data] true :=
  OpenClaim.laidByTextAt_later rfl rfl tie2 noOwnUnsafe
theorem frameBurst_row_tie : Rows.frameBurstRow.laidByTextAt .later Tryd.pinned [.data, .data, .data, .data, .data] true :=
  OpenClaim.laidByTextAt_later rfl rfl tie2 noOwnUnsafe
theorem tie3 : Tryd.prog.laidByTextLater [("granary/granaryref5.fields", Rows.laid_granary_granaryref5_fields), ("granary/digest.fourSteps", Rows.laid_granary_digest_fourSteps), ("granary/frame.shapes", Rows.laid_granary_frame_shapes), ("granary/frame.heads", Rows.laid_granary_frame_heads), ("granary/frame.bodies", Rows.laid_granary_frame_bodies)] [.data, .data, .data, .data, .data] true :=
  Program.laidByTextLater.sub seatTie1 ["granary/granaryref5.fields", "granary/digest.fourSteps", "granary/frame.shapes", "granary/frame.heads", "granary/frame.bodies"] (by kernel_rfl) (by kernel_rfl)
theorem frameEncodes_row_tie : Rows.frameEncodesRow.laidByTextAt .later Tryd.pinned [.data, .data, .data, .data, .data] true :=
  OpenClaim.laidByTextAt_later rfl rfl tie3 noOwnUnsafe
theorem frameDecodes_row_tie : Rows.frameDecodesRow.laidByTextAt .later Tryd.pinned [.data, .data, .data, .data, .data] true :=
  OpenClaim.laidByTextAt_later rfl rfl tie3 noOwnUnsafe
theorem frameCanonUpto_row_tie : Rows.frameCanonUptoRow.laidByTextAt .later Tryd.pinned [.data, .data, .data, .data] true :=
  OpenClaim.laidByTextAt_later rfl rfl tie noOwnUnsafe
theorem frameBackUpto_row_tie : Rows.frameBackUptoRow.laidByTextAt .later Tryd.pinned [.data, .data, .data, .data, .data] true :=
  OpenClaim.laidByTextAt_later rfl rfl tie2 noOwnUnsafe
theorem frameBurstUpto_row_tie : Rows.frameBurstUptoRow.laidByTextAt .later Tryd.pinned [.data, .data, .data, .data, .data] true :=
  OpenClaim.laidByTextAt_later rfl rfl tie2 noOwnUnsafe
theorem frameEncodesUpto_row_tie : Rows.frameEncodesUptoRow.laidByTextAt .later Tryd.pinned [.data, .data, .data, .data, .data] true :=
  OpenClaim.laidByTextAt_later rfl rfl tie3 noOwnUnsafe
theorem frameDecodesUpto_row_tie : Rows.frameDecodesUptoRow.laidByTextAt .later Tryd.pinned [.data, .data, .data, .data, .data] true :=
  OpenClaim.laidByTextAt_later rfl rfl tie3 noOwnUnsafe
end Go.Proofs.YthlpklkdpggmkaaDoor
