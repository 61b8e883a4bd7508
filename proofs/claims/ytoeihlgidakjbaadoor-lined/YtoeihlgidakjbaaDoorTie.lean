/-
  DERIVED. GIVEN WITH THE SEED: THE PROGRAM's TIES (one call each: nine closed facts by the kernel) AND EACH ROW's TIE, after the 31st guide's Derived/Test/Toyas{Tie, Card}.lean. No idea stands in it: it is a product of the set-up. Laid BY PROGRAM, IN A SANDBOX (cutbox-door.mjs). By AI agents, Wed Nov 11 2026. No macro, syntax, notation, axiom, sorry.
-/
import Derived.Test.YtoeihlgidakjbaaDoorRows
import Derived.LaidByTextLater
import Derived.SevenTiedAt
import Derived.LaidSub
import Derived.LaidOnce
namespace Go.Proofs.YtoeihlgidakjbaaDoor
open Go
set_option maxRecDepth 100000
theorem seatTie1 : Tryd.prog.laidByTextLater [("errors.errorType", Rows.laid_errors_errorType), ("concord/line.ErrFlag", Rows.laid_concord_line_ErrFlag), ("concord/line.ErrLoose", Rows.laid_concord_line_ErrLoose), ("concord/line.ErrShort", Rows.laid_concord_line_ErrShort), ("concord/line.ErrLong", Rows.laid_concord_line_ErrLong), ("concord/line.ErrSum", Rows.laid_concord_line_ErrSum), ("concord/line.ErrCode", Rows.laid_concord_line_ErrCode)] [.handle, .sentinel, .sentinel, .sentinel, .sentinel, .sentinel, .sentinel] true :=
  Program.laidByTextLater_by_one 130 8 2 (by kernel_rfl) (by kernel_rfl) (by kernel_rfl) (by kernel_rfl) (by kernel_rfl) (by kernel_rfl) (fun _ _ => by kernel_rfl)
theorem noOwnUnsafe : Tryd.pinned.checked.prog.headLifts.contains "ownunsafe" = false := by kernel_rfl
theorem tie : Tryd.prog.laidByTextLater [("errors.errorType", Rows.laid_errors_errorType), ("concord/line.ErrFlag", Rows.laid_concord_line_ErrFlag), ("concord/line.ErrLoose", Rows.laid_concord_line_ErrLoose), ("concord/line.ErrShort", Rows.laid_concord_line_ErrShort), ("concord/line.ErrLong", Rows.laid_concord_line_ErrLong), ("concord/line.ErrSum", Rows.laid_concord_line_ErrSum), ("concord/line.ErrCode", Rows.laid_concord_line_ErrCode)] [.handle, .sentinel, .sentinel, .sentinel, .sentinel, .sentinel, .sentinel] true :=
  Program.laidByTextLater.sub seatTie1 ["errors.errorType", "concord/line.ErrFlag", "concord/line.ErrLoose", "concord/line.ErrShort", "concord/line.ErrLong", "concord/line.ErrSum", "concord/line.ErrCode"] (by kernel_rfl) (by kernel_rfl)
theorem lined_row_tie : Rows.linedRow.laidByTextAt .later Tryd.pinned [.handle, .sentinel, .sentinel, .sentinel, .sentinel, .sentinel, .sentinel] true :=
  OpenClaim.laidByTextAt_later rfl rfl tie noOwnUnsafe
theorem linedUpto_row_tie : Rows.linedUptoRow.laidByTextAt .later Tryd.pinned [.handle, .sentinel, .sentinel, .sentinel, .sentinel, .sentinel, .sentinel] true :=
  OpenClaim.laidByTextAt_later rfl rfl tie noOwnUnsafe
end Go.Proofs.YtoeihlgidakjbaaDoor
