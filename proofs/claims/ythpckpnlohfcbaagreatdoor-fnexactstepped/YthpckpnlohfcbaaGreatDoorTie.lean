/-
  DERIVED. GIVEN WITH THE SEED: THE PROGRAM's TIES (one call each: nine closed facts by the kernel) AND EACH ROW's TIE, after the 31st guide's Derived/Test/Toyas{Tie, Card}.lean. No idea stands in it: it is a product of the set-up. Laid BY PROGRAM, IN A SANDBOX (cutbox-door.mjs). By AI agents, Wed Nov 11 2026. No macro, syntax, notation, axiom, sorry.
-/
import Derived.Test.YthpckpnlohfcbaaGreatDoorRows
import Derived.LaidByTextLater
import Derived.SevenTiedAt
import Derived.LaidSub
import Derived.LaidOnce
namespace Go.Proofs.YthpckpnlohfcbaaGreatDoor
open Go
set_option maxRecDepth 100000
theorem seatTie1 : Tryz.prog.laidByTextLater [("errors.errorType", Rows.laid_errors_errorType), ("loop.example/g00610/impl.errNotRight", Rows.laid_loop_example_g00610_impl_errNotRight), ("loop.example/g00610/impl.errNotRightThen", Rows.laid_loop_example_g00610_impl_errNotRightThen), ("loop.example/g00610/impl.errNoRing", Rows.laid_loop_example_g00610_impl_errNoRing), ("loop.example/g00610/impl.errNoPlace", Rows.laid_loop_example_g00610_impl_errNoPlace), ("loop.example/g00610/impl.errNoValue", Rows.laid_loop_example_g00610_impl_errNoValue), ("loop.example/g00610/impl.errNotSeen", Rows.laid_loop_example_g00610_impl_errNotSeen), ("loop.example/g00610/impl.errClosed", Rows.laid_loop_example_g00610_impl_errClosed)] [.handle, .sentinel, .sentinel, .sentinel, .sentinel, .sentinel, .sentinel, .sentinel] true :=
  Program.laidByTextLater_by_one 149 8 2 (by kernel_rfl) (by kernel_rfl) (by kernel_rfl) (by kernel_rfl) (by kernel_rfl) (by kernel_rfl) (fun _ _ => by kernel_rfl)
theorem noOwnUnsafe : Tryz.pinned.checked.prog.headLifts.contains "ownunsafe" = false := by kernel_rfl
theorem tie : Tryz.prog.laidByTextLater [("errors.errorType", Rows.laid_errors_errorType), ("loop.example/g00610/impl.errNotRight", Rows.laid_loop_example_g00610_impl_errNotRight), ("loop.example/g00610/impl.errNotRightThen", Rows.laid_loop_example_g00610_impl_errNotRightThen), ("loop.example/g00610/impl.errNoRing", Rows.laid_loop_example_g00610_impl_errNoRing), ("loop.example/g00610/impl.errNoPlace", Rows.laid_loop_example_g00610_impl_errNoPlace), ("loop.example/g00610/impl.errNoValue", Rows.laid_loop_example_g00610_impl_errNoValue), ("loop.example/g00610/impl.errNotSeen", Rows.laid_loop_example_g00610_impl_errNotSeen), ("loop.example/g00610/impl.errClosed", Rows.laid_loop_example_g00610_impl_errClosed)] [.handle, .sentinel, .sentinel, .sentinel, .sentinel, .sentinel, .sentinel, .sentinel] true :=
  Program.laidByTextLater.sub seatTie1 ["errors.errorType", "loop.example/g00610/impl.errNotRight", "loop.example/g00610/impl.errNotRightThen", "loop.example/g00610/impl.errNoRing", "loop.example/g00610/impl.errNoPlace", "loop.example/g00610/impl.errNoValue", "loop.example/g00610/impl.errNotSeen", "loop.example/g00610/impl.errClosed"] (by kernel_rfl) (by kernel_rfl)
theorem fnExactStepped_row_tie : Rows.fnExactSteppedRow.laidByTextAt .later Tryz.pinned [.handle, .sentinel, .sentinel, .sentinel, .sentinel, .sentinel, .sentinel, .sentinel] true :=
  OpenClaim.laidByTextAt_later rfl rfl tie noOwnUnsafe
theorem fnExactAlone_row_tie : Rows.fnExactAloneRow.laidByTextAt .later Tryz.pinned [.handle, .sentinel, .sentinel, .sentinel, .sentinel, .sentinel, .sentinel, .sentinel] true :=
  OpenClaim.laidByTextAt_later rfl rfl tie noOwnUnsafe
theorem fnExactPutAlone_row_tie : Rows.fnExactPutAloneRow.laidByTextAt .later Tryz.pinned [.handle, .sentinel, .sentinel, .sentinel, .sentinel, .sentinel, .sentinel, .sentinel] true :=
  OpenClaim.laidByTextAt_later rfl rfl tie noOwnUnsafe
theorem fnExactTakeAlone_row_tie : Rows.fnExactTakeAloneRow.laidByTextAt .later Tryz.pinned [.handle, .sentinel, .sentinel, .sentinel, .sentinel, .sentinel, .sentinel, .sentinel] true :=
  OpenClaim.laidByTextAt_later rfl rfl tie noOwnUnsafe
theorem fnExactSteppedUpto_row_tie : Rows.fnExactSteppedUptoRow.laidByTextAt .later Tryz.pinned [.handle, .sentinel, .sentinel, .sentinel, .sentinel, .sentinel, .sentinel, .sentinel] true :=
  OpenClaim.laidByTextAt_later rfl rfl tie noOwnUnsafe
theorem fnExactAloneUpto_row_tie : Rows.fnExactAloneUptoRow.laidByTextAt .later Tryz.pinned [.handle, .sentinel, .sentinel, .sentinel, .sentinel, .sentinel, .sentinel, .sentinel] true :=
  OpenClaim.laidByTextAt_later rfl rfl tie noOwnUnsafe
theorem fnExactPutAloneUpto_row_tie : Rows.fnExactPutAloneUptoRow.laidByTextAt .later Tryz.pinned [.handle, .sentinel, .sentinel, .sentinel, .sentinel, .sentinel, .sentinel, .sentinel] true :=
  OpenClaim.laidByTextAt_later rfl rfl tie noOwnUnsafe
theorem fnExactTakeAloneUpto_row_tie : Rows.fnExactTakeAloneUptoRow.laidByTextAt .later Tryz.pinned [.handle, .sentinel, .sentinel, .sentinel, .sentinel, .sentinel, .sentinel, .sentinel] true :=
  OpenClaim.laidByTextAt_later rfl rfl tie noOwnUnsafe
end Go.Proofs.YthpckpnlohfcbaaGreatDoor
