/-
  DERIVED. GIVEN WITH THE SEED: THE PROGRAM's TIES (one call each: nine closed facts by the kernel) AND EACH ROW's TIE, after the 31st guide's Derived/Test/Toyas{Tie, Card}.lean. No idea stands in it: it is a product of the set-up. Laid BY PROGRAM, IN A SANDBOX (cutbox-door.mjs). By AI agents, Wed Nov 11 2026. No macro, syntax, notation, axiom, sorry.
-/
import Derived.Test.YtmmcpcgnbffnjaaDoorRows
import Derived.LaidByTextLater
import Derived.SevenTiedAt
import Derived.LaidSub
import Derived.LaidOnce
namespace Go.Proofs.YtmmcpcgnbffnjaaDoor
open Go
set_option maxRecDepth 100000
theorem seatTie1 : Tryd.prog.laidByTextLater [("granary/granaryref2.sines", Rows.laid_granary_granaryref2_sines), ("granary/granaryref2.turns", Rows.laid_granary_granaryref2_turns), ("granary/granaryref2.powers", Rows.laid_granary_granaryref2_powers), ("granary/digest.fourSteps", Rows.laid_granary_digest_fourSteps), ("granary/digest.sines", Rows.laid_granary_digest_sines), ("granary/digest.turns", Rows.laid_granary_digest_turns)] [.data, .data, .data, .data, .data, .data] true :=
  Program.laidByTextLater_by_one 43 8 65 (by kernel_rfl) (by kernel_rfl) (by kernel_rfl) (by kernel_rfl) (by kernel_rfl) (by kernel_rfl) (fun _ _ => by kernel_rfl)
theorem noOwnUnsafe : Tryd.pinned.checked.prog.headLifts.contains "ownunsafe" = false := by kernel_rfl
theorem tie : Tryd.prog.laidByTextLater [("granary/granaryref2.sines", Rows.laid_granary_granaryref2_sines), ("granary/granaryref2.turns", Rows.laid_granary_granaryref2_turns), ("granary/granaryref2.powers", Rows.laid_granary_granaryref2_powers), ("granary/digest.fourSteps", Rows.laid_granary_digest_fourSteps), ("granary/digest.sines", Rows.laid_granary_digest_sines), ("granary/digest.turns", Rows.laid_granary_digest_turns)] [.data, .data, .data, .data, .data, .data] true :=
  Program.laidByTextLater.sub seatTie1 ["granary/granaryref2.sines", "granary/granaryref2.turns", "granary/granaryref2.powers", "granary/digest.fourSteps", "granary/digest.sines", "granary/digest.turns"] (by kernel_rfl) (by kernel_rfl)
theorem digestHashers_row_tie : Rows.digestHashersRow.laidByTextAt .later Tryd.pinned [.data, .data, .data, .data, .data, .data] true :=
  OpenClaim.laidByTextAt_later rfl rfl tie noOwnUnsafe
theorem digestHashersUpto_row_tie : Rows.digestHashersUptoRow.laidByTextAt .later Tryd.pinned [.data, .data, .data, .data, .data, .data] true :=
  OpenClaim.laidByTextAt_later rfl rfl tie noOwnUnsafe
end Go.Proofs.YtmmcpcgnbffnjaaDoor
