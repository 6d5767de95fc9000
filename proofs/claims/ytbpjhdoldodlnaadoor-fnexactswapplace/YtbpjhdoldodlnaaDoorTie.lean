/-
  DERIVED. GIVEN WITH THE SEED: THE PROGRAM's TIES (one call each: nine closed facts by the kernel) AND EACH ROW's TIE, after the 31st guide's Derived/Test/Toyas{Tie, Card}.lean. No idea stands in it: it is a product of the set-up. Laid BY PROGRAM, IN A SANDBOX (cutbox-door.mjs). By AI agents, Wed Nov 11 2026. No macro, syntax, notation, axiom, sorry.
-/
import Derived.Test.YtbpjhdoldodlnaaDoorRows
import Derived.LaidByTextLater
import Derived.SevenTiedAt
import Derived.LaidSub
import Derived.LaidOnce
namespace Go.Proofs.YtbpjhdoldodlnaaDoor
open Go
set_option maxRecDepth 100000
theorem seatTie1 : Tryd.prog.laidByTextLater [("errors.errorType", Rows.laid_errors_errorType), ("loop.example/g00610/impl.errNotRight", Rows.laid_loop_example_g00610_impl_errNotRight), ("loop.example/g00610/impl.errNotRightThen", Rows.laid_loop_example_g00610_impl_errNotRightThen), ("loop.example/g00610/impl.errNoRing", Rows.laid_loop_example_g00610_impl_errNoRing), ("loop.example/g00610/impl.errNoPlace", Rows.laid_loop_example_g00610_impl_errNoPlace), ("loop.example/g00610/impl.errNoValue", Rows.laid_loop_example_g00610_impl_errNoValue), ("loop.example/g00610/impl.errNotSeen", Rows.laid_loop_example_g00610_impl_errNotSeen), ("loop.example/g00610/impl.errClosed", Rows.laid_loop_example_g00610_impl_errClosed)] [.handle, .sentinel, .sentinel, .sentinel, .sentinel, .sentinel, .sentinel, .sentinel] true :=
  Program.laidByTextLater_by_one 149 8 2 (by kernel_rfl) (by kernel_rfl) (by kernel_rfl) (by kernel_rfl) (by kernel_rfl) (by kernel_rfl) (fun _ _ => by kernel_rfl)
theorem noOwnUnsafe : Tryd.pinned.checked.prog.headLifts.contains "ownunsafe" = false := by kernel_rfl
theorem tie : Tryd.prog.laidByTextLater [("errors.errorType", Rows.laid_errors_errorType), ("loop.example/g00610/impl.errNotRight", Rows.laid_loop_example_g00610_impl_errNotRight), ("loop.example/g00610/impl.errNotRightThen", Rows.laid_loop_example_g00610_impl_errNotRightThen), ("loop.example/g00610/impl.errNoRing", Rows.laid_loop_example_g00610_impl_errNoRing)] [.handle, .sentinel, .sentinel, .sentinel] true :=
  Program.laidByTextLater.sub seatTie1 ["errors.errorType", "loop.example/g00610/impl.errNotRight", "loop.example/g00610/impl.errNotRightThen", "loop.example/g00610/impl.errNoRing"] (by kernel_rfl) (by kernel_rfl)
theorem fnExactTakeTicket_row_tie : Rows.fnExactTakeTicketRow.laidByTextAt .later Tryd.pinned [.handle, .sentinel, .sentinel, .sentinel] true :=
  OpenClaim.laidByTextAt_later rfl rfl tie noOwnUnsafe
theorem fnExactPutTicket_row_tie : Rows.fnExactPutTicketRow.laidByTextAt .later Tryd.pinned [.handle, .sentinel, .sentinel, .sentinel] true :=
  OpenClaim.laidByTextAt_later rfl rfl tie noOwnUnsafe
theorem fnExactClose_row_tie : Rows.fnExactCloseRow.laidByTextAt .later Tryd.pinned [.handle, .sentinel, .sentinel, .sentinel] true :=
  OpenClaim.laidByTextAt_later rfl rfl tie noOwnUnsafe
theorem tie2 : Tryd.prog.laidByTextLater [("errors.errorType", Rows.laid_errors_errorType), ("loop.example/g00610/impl.errNotRight", Rows.laid_loop_example_g00610_impl_errNotRight), ("loop.example/g00610/impl.errNotRightThen", Rows.laid_loop_example_g00610_impl_errNotRightThen), ("loop.example/g00610/impl.errNoRing", Rows.laid_loop_example_g00610_impl_errNoRing), ("loop.example/g00610/impl.errNoPlace", Rows.laid_loop_example_g00610_impl_errNoPlace), ("loop.example/g00610/impl.errNotSeen", Rows.laid_loop_example_g00610_impl_errNotSeen)] [.handle, .sentinel, .sentinel, .sentinel, .sentinel, .sentinel] true :=
  Program.laidByTextLater.sub seatTie1 ["errors.errorType", "loop.example/g00610/impl.errNotRight", "loop.example/g00610/impl.errNotRightThen", "loop.example/g00610/impl.errNoRing", "loop.example/g00610/impl.errNoPlace", "loop.example/g00610/impl.errNotSeen"] (by kernel_rfl) (by kernel_rfl)
theorem fnExactSwapPlace_row_tie : Rows.fnExactSwapPlaceRow.laidByTextAt .later Tryd.pinned [.handle, .sentinel, .sentinel, .sentinel, .sentinel, .sentinel] true :=
  OpenClaim.laidByTextAt_later rfl rfl tie2 noOwnUnsafe
theorem tie3 : Tryd.prog.laidByTextLater [("errors.errorType", Rows.laid_errors_errorType), ("loop.example/g00610/impl.errNotRight", Rows.laid_loop_example_g00610_impl_errNotRight), ("loop.example/g00610/impl.errNotRightThen", Rows.laid_loop_example_g00610_impl_errNotRightThen), ("loop.example/g00610/impl.errNoRing", Rows.laid_loop_example_g00610_impl_errNoRing), ("loop.example/g00610/impl.errNotSeen", Rows.laid_loop_example_g00610_impl_errNotSeen), ("loop.example/g00610/impl.errClosed", Rows.laid_loop_example_g00610_impl_errClosed)] [.handle, .sentinel, .sentinel, .sentinel, .sentinel, .sentinel] true :=
  Program.laidByTextLater.sub seatTie1 ["errors.errorType", "loop.example/g00610/impl.errNotRight", "loop.example/g00610/impl.errNotRightThen", "loop.example/g00610/impl.errNoRing", "loop.example/g00610/impl.errNotSeen", "loop.example/g00610/impl.errClosed"] (by kernel_rfl) (by kernel_rfl)
theorem fnExactRaiseTail_row_tie : Rows.fnExactRaiseTailRow.laidByTextAt .later Tryd.pinned [.handle, .sentinel, .sentinel, .sentinel, .sentinel, .sentinel] true :=
  OpenClaim.laidByTextAt_later rfl rfl tie3 noOwnUnsafe
theorem tie4 : Tryd.prog.laidByTextLater [("errors.errorType", Rows.laid_errors_errorType), ("loop.example/g00610/impl.errNotRight", Rows.laid_loop_example_g00610_impl_errNotRight), ("loop.example/g00610/impl.errNotRightThen", Rows.laid_loop_example_g00610_impl_errNotRightThen), ("loop.example/g00610/impl.errNoValue", Rows.laid_loop_example_g00610_impl_errNoValue)] [.handle, .sentinel, .sentinel, .sentinel] true :=
  Program.laidByTextLater.sub seatTie1 ["errors.errorType", "loop.example/g00610/impl.errNotRight", "loop.example/g00610/impl.errNotRightThen", "loop.example/g00610/impl.errNoValue"] (by kernel_rfl) (by kernel_rfl)
theorem fnExactAddRing_row_tie : Rows.fnExactAddRingRow.laidByTextAt .later Tryd.pinned [.handle, .sentinel, .sentinel, .sentinel] true :=
  OpenClaim.laidByTextAt_later rfl rfl tie4 noOwnUnsafe
theorem tie5 : Tryd.prog.laidByTextLater [("errors.errorType", Rows.laid_errors_errorType), ("loop.example/g00610/impl.errNotRight", Rows.laid_loop_example_g00610_impl_errNotRight), ("loop.example/g00610/impl.errNotRightThen", Rows.laid_loop_example_g00610_impl_errNotRightThen), ("loop.example/g00610/impl.errNoRing", Rows.laid_loop_example_g00610_impl_errNoRing), ("loop.example/g00610/impl.errNotSeen", Rows.laid_loop_example_g00610_impl_errNotSeen)] [.handle, .sentinel, .sentinel, .sentinel, .sentinel] true :=
  Program.laidByTextLater.sub seatTie1 ["errors.errorType", "loop.example/g00610/impl.errNotRight", "loop.example/g00610/impl.errNotRightThen", "loop.example/g00610/impl.errNoRing", "loop.example/g00610/impl.errNotSeen"] (by kernel_rfl) (by kernel_rfl)
theorem fnExactLink_row_tie : Rows.fnExactLinkRow.laidByTextAt .later Tryd.pinned [.handle, .sentinel, .sentinel, .sentinel, .sentinel] true :=
  OpenClaim.laidByTextAt_later rfl rfl tie5 noOwnUnsafe
theorem tie6 : Tryd.prog.laidByTextLater [("errors.errorType", Rows.laid_errors_errorType), ("loop.example/g00610/impl.errNotRight", Rows.laid_loop_example_g00610_impl_errNotRight), ("loop.example/g00610/impl.errNotRightThen", Rows.laid_loop_example_g00610_impl_errNotRightThen), ("loop.example/g00610/impl.errNotSeen", Rows.laid_loop_example_g00610_impl_errNotSeen)] [.handle, .sentinel, .sentinel, .sentinel] true :=
  Program.laidByTextLater.sub seatTie1 ["errors.errorType", "loop.example/g00610/impl.errNotRight", "loop.example/g00610/impl.errNotRightThen", "loop.example/g00610/impl.errNotSeen"] (by kernel_rfl) (by kernel_rfl)
theorem fnExactSwing_row_tie : Rows.fnExactSwingRow.laidByTextAt .later Tryd.pinned [.handle, .sentinel, .sentinel, .sentinel] true :=
  OpenClaim.laidByTextAt_later rfl rfl tie6 noOwnUnsafe
theorem fnExactTakeTicketUpto_row_tie : Rows.fnExactTakeTicketUptoRow.laidByTextAt .later Tryd.pinned [.handle, .sentinel, .sentinel, .sentinel] true :=
  OpenClaim.laidByTextAt_later rfl rfl tie noOwnUnsafe
theorem fnExactPutTicketUpto_row_tie : Rows.fnExactPutTicketUptoRow.laidByTextAt .later Tryd.pinned [.handle, .sentinel, .sentinel, .sentinel] true :=
  OpenClaim.laidByTextAt_later rfl rfl tie noOwnUnsafe
theorem fnExactSwapPlaceUpto_row_tie : Rows.fnExactSwapPlaceUptoRow.laidByTextAt .later Tryd.pinned [.handle, .sentinel, .sentinel, .sentinel, .sentinel, .sentinel] true :=
  OpenClaim.laidByTextAt_later rfl rfl tie2 noOwnUnsafe
theorem fnExactCloseUpto_row_tie : Rows.fnExactCloseUptoRow.laidByTextAt .later Tryd.pinned [.handle, .sentinel, .sentinel, .sentinel] true :=
  OpenClaim.laidByTextAt_later rfl rfl tie noOwnUnsafe
theorem fnExactRaiseTailUpto_row_tie : Rows.fnExactRaiseTailUptoRow.laidByTextAt .later Tryd.pinned [.handle, .sentinel, .sentinel, .sentinel, .sentinel, .sentinel] true :=
  OpenClaim.laidByTextAt_later rfl rfl tie3 noOwnUnsafe
theorem fnExactAddRingUpto_row_tie : Rows.fnExactAddRingUptoRow.laidByTextAt .later Tryd.pinned [.handle, .sentinel, .sentinel, .sentinel] true :=
  OpenClaim.laidByTextAt_later rfl rfl tie4 noOwnUnsafe
theorem fnExactLinkUpto_row_tie : Rows.fnExactLinkUptoRow.laidByTextAt .later Tryd.pinned [.handle, .sentinel, .sentinel, .sentinel, .sentinel] true :=
  OpenClaim.laidByTextAt_later rfl rfl tie5 noOwnUnsafe
theorem fnExactSwingUpto_row_tie : Rows.fnExactSwingUptoRow.laidByTextAt .later Tryd.pinned [.handle, .sentinel, .sentinel, .sentinel] true :=
  OpenClaim.laidByTextAt_later rfl rfl tie6 noOwnUnsafe
end Go.Proofs.YtbpjhdoldodlnaaDoor
