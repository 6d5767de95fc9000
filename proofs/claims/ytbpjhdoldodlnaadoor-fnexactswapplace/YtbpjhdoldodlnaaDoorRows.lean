/-
  NARROWER THAN 'FOR EVERY INPUT', by the rows' own cells (each row's printed sentence says how): FnExactTakeTicket: ifaces, laid · FnExactPutTicket: ifaces, laid · FnExactSwapPlace: ifaces, laid · FnExactClose: ifaces, laid · FnExactRaiseTail: ifaces, laid · FnExactAddRing: ifaces, laid · FnExactLink: ifaces, laid · FnExactSwing: ifaces, laid.
  DERIVED. THE GIVEN ROWS OF THIS SEAT. 8 by the template 'for every input the law returns true; each argument reads behind the call as it read before'; 0 by the template 'total and deterministic' (their statements: YtbpjhdoldodlnaaDoorTotals.lean).
  GIVEN WITH THE SEED: the statements are not yours to turn. If you find one false, say at which input.
  Laid BY PROGRAM, IN A SANDBOX (cutbox-rows.mjs): the forced cells as the released guide's own fill.sh prints them over the translation 71f77e996abb8c73… (all of the seat's roots in one cut). By AI agents, Wed Nov 11 2026. No macro, syntax, notation, axiom, sorry.
-/
import Derived.Test.YtbpjhdoldodlnaaDoorChecked
import GoSem.Claim
import GoSem.ClaimJoined
import GoSem.ClaimMapViews
import Derived.JoinedTies
import Derived.KernelRfl
namespace Go.Proofs.YtbpjhdoldodlnaaDoor
/- THE CELL 'sum', in the pinned program and in every row, IS THE sha256 OF THE DUMP (.gsa) THAT YtbpjhdoldodlnaaDoorProg.lean LOADS. Nothing in Lean hashes anything: it is a label: what it is worth is what the hold of that sum in a sandbox is worth. -/
noncomputable def Tryd.pinned : Pinned := { name := "ytbpjhdoldodlnaadoor", sum := "71f77e996abb8c73f5c74b3d6d2774a97af0a279c2c67d802e4e39f3ca80cfe6", checked := Tryd.checked }
namespace Rows
def none {H : Type} : Left H := { results := [], args := [] }

/- WHAT THE LISTED PACKAGE-LEVEL VARIABLES READ AS WHEN THE CALL BEGINS. Each datum BY PROGRAM (the guide's laid-datum.mjs) off the statement by which the dump's own 'gosem.cut.vars' lays the variable. In a bare row this is a premise. The card (YtbpjhdoldodlnaaDoorCards.lean) ties it to the program's text. -/
def laid_errors_errorType {H : Type} : DataW H := .iface "internal/reflectlite.rtype" (.agg [.ptr (.lit (.string [101, 114, 114, 111, 114]))])
def laid_loop_example_g00610_impl_errNotRight {H : Type} : DataW H := .iface "*errors.errorString" (.ptr (.agg [.lit (.string [116, 104, 101, 32, 115, 116, 111, 114, 101, 32, 105, 115, 32, 110, 111, 116, 32, 114, 105, 103, 104, 116])]))
def laid_loop_example_g00610_impl_errNotRightThen {H : Type} : DataW H := .iface "*errors.errorString" (.ptr (.agg [.lit (.string [116, 104, 101, 32, 115, 116, 111, 114, 101, 32, 119, 111, 117, 108, 100, 32, 110, 111, 116, 32, 98, 101, 32, 114, 105, 103, 104, 116, 32, 116, 104, 101, 110])]))
def laid_loop_example_g00610_impl_errNoRing {H : Type} : DataW H := .iface "*errors.errorString" (.ptr (.agg [.lit (.string [116, 104, 101, 114, 101, 32, 105, 115, 32, 110, 111, 32, 115, 117, 99, 104, 32, 114, 105, 110, 103])]))
def laid_loop_example_g00610_impl_errNoPlace {H : Type} : DataW H := .iface "*errors.errorString" (.ptr (.agg [.lit (.string [116, 104, 101, 114, 101, 32, 105, 115, 32, 110, 111, 32, 115, 117, 99, 104, 32, 112, 108, 97, 99, 101])]))
def laid_loop_example_g00610_impl_errNotSeen {H : Type} : DataW H := .iface "*errors.errorString" (.ptr (.agg [.lit (.string [105, 116, 32, 105, 115, 32, 110, 111, 116, 32, 119, 104, 97, 116, 32, 119, 97, 115, 32, 115, 101, 101, 110])]))
def laid_loop_example_g00610_impl_errClosed {H : Type} : DataW H := .iface "*errors.errorString" (.ptr (.agg [.lit (.string [116, 104, 101, 32, 114, 105, 110, 103, 32, 105, 115, 32, 99, 108, 111, 115, 101, 100])]))
def laid_loop_example_g00610_impl_errNoValue {H : Type} : DataW H := .iface "*errors.errorString" (.ptr (.agg [.lit (.string [105, 116, 32, 105, 115, 32, 110, 111, 32, 118, 97, 108, 117, 101])]))

/-- 'laws.FnExactTakeTicket': WHATEVER THE INPUT: true; the input reads as it did. -/
def fnExactTakeTicketSpec : ChangeSpec := { name := "fnExactTakeTicket", vars := ["loop.example/g00610/impl.errNoRing", "loop.example/g00610/impl.errNotRight", "loop.example/g00610/impl.errNotRightThen"], fn := fun _ => fun
  | [d1, d2, g1, g2, g3] => { results := [.lit (.bool true)], args := [d1, d2], vars := [g1, g2, g3] }
  | _ => none }
def fnExactTakeTicketRow : OpenClaim := { program := "ytbpjhdoldodlnaadoor", sum := "71f77e996abb8c73f5c74b3d6d2774a97af0a279c2c67d802e4e39f3ca80cfe6", func := "loop.example/g00610/laws.FnExactTakeTicket", spec := "fnExactTakeTicket", inPlace := ["internal/reflectlite.TypeOf", "internal/reflectlite.ValueOf", "(internal/reflectlite.Value).Type", "(internal/reflectlite.Value).IsNil", "(internal/reflectlite.Value).Elem", "(internal/reflectlite.Value).Set"], unfollowed := true, recurses := true, named := ["loop.example/g00610/impl.errNoRing", "loop.example/g00610/impl.errNotRight", "loop.example/g00610/impl.errNotRightThen", "errors.errorType"], ifaces := true, apart := false, laid := [("errors.errorType", laid_errors_errorType), ("loop.example/g00610/impl.errNotRight", laid_loop_example_g00610_impl_errNotRight), ("loop.example/g00610/impl.errNotRightThen", laid_loop_example_g00610_impl_errNotRightThen), ("loop.example/g00610/impl.errNoRing", laid_loop_example_g00610_impl_errNoRing)] }
def FnExactTakeTicketSaid : Prop := fnExactTakeTicketRow.holds Tryd.pinned (OpenSpec.ofChange fnExactTakeTicketSpec)

/-- ITS FALSE NEIGHBOUR: 'it returns false'. Refute it at one input. -/
def fnExactTakeTicketWrong : ChangeSpec := { name := "fnExactTakeTicket", vars := ["loop.example/g00610/impl.errNoRing", "loop.example/g00610/impl.errNotRight", "loop.example/g00610/impl.errNotRightThen"], fn := fun _ => fun
  | [d1, d2, g1, g2, g3] => { results := [.lit (.bool false)], args := [d1, d2], vars := [g1, g2, g3] }
  | _ => none }
def FnExactTakeTicketWrongFalsely : Prop := fnExactTakeTicketRow.holds Tryd.pinned (OpenSpec.ofChange fnExactTakeTicketWrong)

/-- 'laws.FnExactPutTicket': WHATEVER THE INPUT: true; the input reads as it did. -/
def fnExactPutTicketSpec : ChangeSpec := { name := "fnExactPutTicket", vars := ["loop.example/g00610/impl.errNoRing", "loop.example/g00610/impl.errNotRight", "loop.example/g00610/impl.errNotRightThen"], fn := fun _ => fun
  | [d1, d2, g1, g2, g3] => { results := [.lit (.bool true)], args := [d1, d2], vars := [g1, g2, g3] }
  | _ => none }
def fnExactPutTicketRow : OpenClaim := { program := "ytbpjhdoldodlnaadoor", sum := "71f77e996abb8c73f5c74b3d6d2774a97af0a279c2c67d802e4e39f3ca80cfe6", func := "loop.example/g00610/laws.FnExactPutTicket", spec := "fnExactPutTicket", inPlace := ["internal/reflectlite.TypeOf", "internal/reflectlite.ValueOf", "(internal/reflectlite.Value).Type", "(internal/reflectlite.Value).IsNil", "(internal/reflectlite.Value).Elem", "(internal/reflectlite.Value).Set"], unfollowed := true, recurses := true, named := ["loop.example/g00610/impl.errNoRing", "loop.example/g00610/impl.errNotRight", "loop.example/g00610/impl.errNotRightThen", "errors.errorType"], ifaces := true, apart := false, laid := [("errors.errorType", laid_errors_errorType), ("loop.example/g00610/impl.errNotRight", laid_loop_example_g00610_impl_errNotRight), ("loop.example/g00610/impl.errNotRightThen", laid_loop_example_g00610_impl_errNotRightThen), ("loop.example/g00610/impl.errNoRing", laid_loop_example_g00610_impl_errNoRing)] }
def FnExactPutTicketSaid : Prop := fnExactPutTicketRow.holds Tryd.pinned (OpenSpec.ofChange fnExactPutTicketSpec)

/-- ITS FALSE NEIGHBOUR: 'it returns false'. Refute it at one input. -/
def fnExactPutTicketWrong : ChangeSpec := { name := "fnExactPutTicket", vars := ["loop.example/g00610/impl.errNoRing", "loop.example/g00610/impl.errNotRight", "loop.example/g00610/impl.errNotRightThen"], fn := fun _ => fun
  | [d1, d2, g1, g2, g3] => { results := [.lit (.bool false)], args := [d1, d2], vars := [g1, g2, g3] }
  | _ => none }
def FnExactPutTicketWrongFalsely : Prop := fnExactPutTicketRow.holds Tryd.pinned (OpenSpec.ofChange fnExactPutTicketWrong)

/-- 'laws.FnExactSwapPlace': WHATEVER THE INPUT: true; the input reads as it did. -/
def fnExactSwapPlaceSpec : ChangeSpec := { name := "fnExactSwapPlace", vars := ["loop.example/g00610/impl.errNoPlace", "loop.example/g00610/impl.errNotSeen", "loop.example/g00610/impl.errNoRing", "loop.example/g00610/impl.errNotRight", "loop.example/g00610/impl.errNotRightThen"], fn := fun _ => fun
  | [d1, d2, d3, d4, d5, g1, g2, g3, g4, g5] => { results := [.lit (.bool true)], args := [d1, d2, d3, d4, d5], vars := [g1, g2, g3, g4, g5] }
  | _ => none }
def fnExactSwapPlaceRow : OpenClaim := { program := "ytbpjhdoldodlnaadoor", sum := "71f77e996abb8c73f5c74b3d6d2774a97af0a279c2c67d802e4e39f3ca80cfe6", func := "loop.example/g00610/laws.FnExactSwapPlace", spec := "fnExactSwapPlace", inPlace := ["internal/reflectlite.TypeOf", "internal/reflectlite.ValueOf", "(internal/reflectlite.Value).Type", "(internal/reflectlite.Value).IsNil", "(internal/reflectlite.Value).Elem", "(internal/reflectlite.Value).Set"], unfollowed := true, recurses := true, named := ["loop.example/g00610/impl.errNoPlace", "loop.example/g00610/impl.errNotSeen", "loop.example/g00610/impl.errNoRing", "loop.example/g00610/impl.errNotRight", "loop.example/g00610/impl.errNotRightThen", "errors.errorType"], ifaces := true, apart := false, laid := [("errors.errorType", laid_errors_errorType), ("loop.example/g00610/impl.errNotRight", laid_loop_example_g00610_impl_errNotRight), ("loop.example/g00610/impl.errNotRightThen", laid_loop_example_g00610_impl_errNotRightThen), ("loop.example/g00610/impl.errNoRing", laid_loop_example_g00610_impl_errNoRing), ("loop.example/g00610/impl.errNoPlace", laid_loop_example_g00610_impl_errNoPlace), ("loop.example/g00610/impl.errNotSeen", laid_loop_example_g00610_impl_errNotSeen)] }
def FnExactSwapPlaceSaid : Prop := fnExactSwapPlaceRow.holds Tryd.pinned (OpenSpec.ofChange fnExactSwapPlaceSpec)

/-- ITS FALSE NEIGHBOUR: 'it returns false'. Refute it at one input. -/
def fnExactSwapPlaceWrong : ChangeSpec := { name := "fnExactSwapPlace", vars := ["loop.example/g00610/impl.errNoPlace", "loop.example/g00610/impl.errNotSeen", "loop.example/g00610/impl.errNoRing", "loop.example/g00610/impl.errNotRight", "loop.example/g00610/impl.errNotRightThen"], fn := fun _ => fun
  | [d1, d2, d3, d4, d5, g1, g2, g3, g4, g5] => { results := [.lit (.bool false)], args := [d1, d2, d3, d4, d5], vars := [g1, g2, g3, g4, g5] }
  | _ => none }
def FnExactSwapPlaceWrongFalsely : Prop := fnExactSwapPlaceRow.holds Tryd.pinned (OpenSpec.ofChange fnExactSwapPlaceWrong)

/-- 'laws.FnExactClose': WHATEVER THE INPUT: true; the input reads as it did. -/
def fnExactCloseSpec : ChangeSpec := { name := "fnExactClose", vars := ["loop.example/g00610/impl.errNoRing", "loop.example/g00610/impl.errNotRight", "loop.example/g00610/impl.errNotRightThen"], fn := fun _ => fun
  | [d1, d2, g1, g2, g3] => { results := [.lit (.bool true)], args := [d1, d2], vars := [g1, g2, g3] }
  | _ => none }
def fnExactCloseRow : OpenClaim := { program := "ytbpjhdoldodlnaadoor", sum := "71f77e996abb8c73f5c74b3d6d2774a97af0a279c2c67d802e4e39f3ca80cfe6", func := "loop.example/g00610/laws.FnExactClose", spec := "fnExactClose", inPlace := ["internal/reflectlite.TypeOf", "internal/reflectlite.ValueOf", "(internal/reflectlite.Value).Type", "(internal/reflectlite.Value).IsNil", "(internal/reflectlite.Value).Elem", "(internal/reflectlite.Value).Set"], unfollowed := true, recurses := true, named := ["loop.example/g00610/impl.errNoRing", "loop.example/g00610/impl.errNotRight", "loop.example/g00610/impl.errNotRightThen", "errors.errorType"], ifaces := true, apart := false, laid := [("errors.errorType", laid_errors_errorType), ("loop.example/g00610/impl.errNotRight", laid_loop_example_g00610_impl_errNotRight), ("loop.example/g00610/impl.errNotRightThen", laid_loop_example_g00610_impl_errNotRightThen), ("loop.example/g00610/impl.errNoRing", laid_loop_example_g00610_impl_errNoRing)] }
def FnExactCloseSaid : Prop := fnExactCloseRow.holds Tryd.pinned (OpenSpec.ofChange fnExactCloseSpec)

/-- ITS FALSE NEIGHBOUR: 'it returns false'. Refute it at one input. -/
def fnExactCloseWrong : ChangeSpec := { name := "fnExactClose", vars := ["loop.example/g00610/impl.errNoRing", "loop.example/g00610/impl.errNotRight", "loop.example/g00610/impl.errNotRightThen"], fn := fun _ => fun
  | [d1, d2, g1, g2, g3] => { results := [.lit (.bool false)], args := [d1, d2], vars := [g1, g2, g3] }
  | _ => none }
def FnExactCloseWrongFalsely : Prop := fnExactCloseRow.holds Tryd.pinned (OpenSpec.ofChange fnExactCloseWrong)

/-- 'laws.FnExactRaiseTail': WHATEVER THE INPUT: true; the input reads as it did. -/
def fnExactRaiseTailSpec : ChangeSpec := { name := "fnExactRaiseTail", vars := ["loop.example/g00610/impl.errClosed", "loop.example/g00610/impl.errNotSeen", "loop.example/g00610/impl.errNoRing", "loop.example/g00610/impl.errNotRight", "loop.example/g00610/impl.errNotRightThen"], fn := fun _ => fun
  | [d1, d2, d3, d4, g1, g2, g3, g4, g5] => { results := [.lit (.bool true)], args := [d1, d2, d3, d4], vars := [g1, g2, g3, g4, g5] }
  | _ => none }
def fnExactRaiseTailRow : OpenClaim := { program := "ytbpjhdoldodlnaadoor", sum := "71f77e996abb8c73f5c74b3d6d2774a97af0a279c2c67d802e4e39f3ca80cfe6", func := "loop.example/g00610/laws.FnExactRaiseTail", spec := "fnExactRaiseTail", inPlace := ["internal/reflectlite.TypeOf", "internal/reflectlite.ValueOf", "(internal/reflectlite.Value).Type", "(internal/reflectlite.Value).IsNil", "(internal/reflectlite.Value).Elem", "(internal/reflectlite.Value).Set"], unfollowed := true, recurses := true, named := ["loop.example/g00610/impl.errClosed", "loop.example/g00610/impl.errNotSeen", "loop.example/g00610/impl.errNoRing", "loop.example/g00610/impl.errNotRight", "loop.example/g00610/impl.errNotRightThen", "errors.errorType"], ifaces := true, apart := false, laid := [("errors.errorType", laid_errors_errorType), ("loop.example/g00610/impl.errNotRight", laid_loop_example_g00610_impl_errNotRight), ("loop.example/g00610/impl.errNotRightThen", laid_loop_example_g00610_impl_errNotRightThen), ("loop.example/g00610/impl.errNoRing", laid_loop_example_g00610_impl_errNoRing), ("loop.example/g00610/impl.errNotSeen", laid_loop_example_g00610_impl_errNotSeen), ("loop.example/g00610/impl.errClosed", laid_loop_example_g00610_impl_errClosed)] }
def FnExactRaiseTailSaid : Prop := fnExactRaiseTailRow.holds Tryd.pinned (OpenSpec.ofChange fnExactRaiseTailSpec)

/-- ITS FALSE NEIGHBOUR: 'it returns false'. Refute it at one input. -/
def fnExactRaiseTailWrong : ChangeSpec := { name := "fnExactRaiseTail", vars := ["loop.example/g00610/impl.errClosed", "loop.example/g00610/impl.errNotSeen", "loop.example/g00610/impl.errNoRing", "loop.example/g00610/impl.errNotRight", "loop.example/g00610/impl.errNotRightThen"], fn := fun _ => fun
  | [d1, d2, d3, d4, g1, g2, g3, g4, g5] => { results := [.lit (.bool false)], args := [d1, d2, d3, d4], vars := [g1, g2, g3, g4, g5] }
  | _ => none }
def FnExactRaiseTailWrongFalsely : Prop := fnExactRaiseTailRow.holds Tryd.pinned (OpenSpec.ofChange fnExactRaiseTailWrong)

/-- 'laws.FnExactAddRing': WHATEVER THE INPUT: true; the input reads as it did. -/
def fnExactAddRingSpec : ChangeSpec := { name := "fnExactAddRing", vars := ["loop.example/g00610/impl.errNoValue", "loop.example/g00610/impl.errNotRight", "loop.example/g00610/impl.errNotRightThen"], fn := fun _ => fun
  | [d1, d2, g1, g2, g3] => { results := [.lit (.bool true)], args := [d1, d2], vars := [g1, g2, g3] }
  | _ => none }
def fnExactAddRingRow : OpenClaim := { program := "ytbpjhdoldodlnaadoor", sum := "71f77e996abb8c73f5c74b3d6d2774a97af0a279c2c67d802e4e39f3ca80cfe6", func := "loop.example/g00610/laws.FnExactAddRing", spec := "fnExactAddRing", inPlace := ["internal/reflectlite.TypeOf", "internal/reflectlite.ValueOf", "(internal/reflectlite.Value).Type", "(internal/reflectlite.Value).IsNil", "(internal/reflectlite.Value).Elem", "(internal/reflectlite.Value).Set"], unfollowed := true, recurses := true, named := ["loop.example/g00610/impl.errNoValue", "loop.example/g00610/impl.errNotRight", "loop.example/g00610/impl.errNotRightThen", "errors.errorType"], ifaces := true, apart := false, laid := [("errors.errorType", laid_errors_errorType), ("loop.example/g00610/impl.errNotRight", laid_loop_example_g00610_impl_errNotRight), ("loop.example/g00610/impl.errNotRightThen", laid_loop_example_g00610_impl_errNotRightThen), ("loop.example/g00610/impl.errNoValue", laid_loop_example_g00610_impl_errNoValue)] }
def FnExactAddRingSaid : Prop := fnExactAddRingRow.holds Tryd.pinned (OpenSpec.ofChange fnExactAddRingSpec)

/-- ITS FALSE NEIGHBOUR: 'it returns false'. Refute it at one input. -/
def fnExactAddRingWrong : ChangeSpec := { name := "fnExactAddRing", vars := ["loop.example/g00610/impl.errNoValue", "loop.example/g00610/impl.errNotRight", "loop.example/g00610/impl.errNotRightThen"], fn := fun _ => fun
  | [d1, d2, g1, g2, g3] => { results := [.lit (.bool false)], args := [d1, d2], vars := [g1, g2, g3] }
  | _ => none }
def FnExactAddRingWrongFalsely : Prop := fnExactAddRingRow.holds Tryd.pinned (OpenSpec.ofChange fnExactAddRingWrong)

/-- 'laws.FnExactLink': WHATEVER THE INPUT: true; the input reads as it did. -/
def fnExactLinkSpec : ChangeSpec := { name := "fnExactLink", vars := ["loop.example/g00610/impl.errNoRing", "loop.example/g00610/impl.errNotSeen", "loop.example/g00610/impl.errNotRight", "loop.example/g00610/impl.errNotRightThen"], fn := fun _ => fun
  | [d1, d2, d3, g1, g2, g3, g4] => { results := [.lit (.bool true)], args := [d1, d2, d3], vars := [g1, g2, g3, g4] }
  | _ => none }
def fnExactLinkRow : OpenClaim := { program := "ytbpjhdoldodlnaadoor", sum := "71f77e996abb8c73f5c74b3d6d2774a97af0a279c2c67d802e4e39f3ca80cfe6", func := "loop.example/g00610/laws.FnExactLink", spec := "fnExactLink", inPlace := ["internal/reflectlite.TypeOf", "internal/reflectlite.ValueOf", "(internal/reflectlite.Value).Type", "(internal/reflectlite.Value).IsNil", "(internal/reflectlite.Value).Elem", "(internal/reflectlite.Value).Set"], unfollowed := true, recurses := true, named := ["loop.example/g00610/impl.errNoRing", "loop.example/g00610/impl.errNotSeen", "loop.example/g00610/impl.errNotRight", "loop.example/g00610/impl.errNotRightThen", "errors.errorType"], ifaces := true, apart := false, laid := [("errors.errorType", laid_errors_errorType), ("loop.example/g00610/impl.errNotRight", laid_loop_example_g00610_impl_errNotRight), ("loop.example/g00610/impl.errNotRightThen", laid_loop_example_g00610_impl_errNotRightThen), ("loop.example/g00610/impl.errNoRing", laid_loop_example_g00610_impl_errNoRing), ("loop.example/g00610/impl.errNotSeen", laid_loop_example_g00610_impl_errNotSeen)] }
def FnExactLinkSaid : Prop := fnExactLinkRow.holds Tryd.pinned (OpenSpec.ofChange fnExactLinkSpec)

/-- ITS FALSE NEIGHBOUR: 'it returns false'. Refute it at one input. -/
def fnExactLinkWrong : ChangeSpec := { name := "fnExactLink", vars := ["loop.example/g00610/impl.errNoRing", "loop.example/g00610/impl.errNotSeen", "loop.example/g00610/impl.errNotRight", "loop.example/g00610/impl.errNotRightThen"], fn := fun _ => fun
  | [d1, d2, d3, g1, g2, g3, g4] => { results := [.lit (.bool false)], args := [d1, d2, d3], vars := [g1, g2, g3, g4] }
  | _ => none }
def FnExactLinkWrongFalsely : Prop := fnExactLinkRow.holds Tryd.pinned (OpenSpec.ofChange fnExactLinkWrong)

/-- 'laws.FnExactSwing': WHATEVER THE INPUT: true; the input reads as it did. -/
def fnExactSwingSpec : ChangeSpec := { name := "fnExactSwing", vars := ["loop.example/g00610/impl.errNotSeen", "loop.example/g00610/impl.errNotRight", "loop.example/g00610/impl.errNotRightThen"], fn := fun _ => fun
  | [d1, d2, d3, d4, g1, g2, g3] => { results := [.lit (.bool true)], args := [d1, d2, d3, d4], vars := [g1, g2, g3] }
  | _ => none }
def fnExactSwingRow : OpenClaim := { program := "ytbpjhdoldodlnaadoor", sum := "71f77e996abb8c73f5c74b3d6d2774a97af0a279c2c67d802e4e39f3ca80cfe6", func := "loop.example/g00610/laws.FnExactSwing", spec := "fnExactSwing", inPlace := ["internal/reflectlite.TypeOf", "internal/reflectlite.ValueOf", "(internal/reflectlite.Value).Type", "(internal/reflectlite.Value).IsNil", "(internal/reflectlite.Value).Elem", "(internal/reflectlite.Value).Set"], unfollowed := true, recurses := true, named := ["loop.example/g00610/impl.errNotSeen", "loop.example/g00610/impl.errNotRight", "loop.example/g00610/impl.errNotRightThen", "errors.errorType"], ifaces := true, apart := false, laid := [("errors.errorType", laid_errors_errorType), ("loop.example/g00610/impl.errNotRight", laid_loop_example_g00610_impl_errNotRight), ("loop.example/g00610/impl.errNotRightThen", laid_loop_example_g00610_impl_errNotRightThen), ("loop.example/g00610/impl.errNotSeen", laid_loop_example_g00610_impl_errNotSeen)] }
def FnExactSwingSaid : Prop := fnExactSwingRow.holds Tryd.pinned (OpenSpec.ofChange fnExactSwingSpec)

/-- ITS FALSE NEIGHBOUR: 'it returns false'. Refute it at one input. -/
def fnExactSwingWrong : ChangeSpec := { name := "fnExactSwing", vars := ["loop.example/g00610/impl.errNotSeen", "loop.example/g00610/impl.errNotRight", "loop.example/g00610/impl.errNotRightThen"], fn := fun _ => fun
  | [d1, d2, d3, d4, g1, g2, g3] => { results := [.lit (.bool false)], args := [d1, d2, d3, d4], vars := [g1, g2, g3] }
  | _ => none }
def FnExactSwingWrongFalsely : Prop := fnExactSwingRow.holds Tryd.pinned (OpenSpec.ofChange fnExactSwingWrong)

/- THE SECOND FORM. 'bulk': how many values and letters a reading holds, each counted each time it is reached (what is shared counts as often as it is met; a slice's spare places count too). A statement '..UptoSaid' is the law's where the arguments, and the package variables that the reading takes, are together of bulk at most 1048576: NARROWER than '..Said'. Prove '..Said' where nothing that the law and all that it calls make is longer than what came in: it says more and counts as full. Else prove '..UptoSaid'. A law counts once. -/
mutual
def uptoBulk {H : Type} : DataW H → Nat
  | .lit (.string bytes) => bytes.length + 1
  | .lit _ => 1
  | .nil => 1
  | .ptr d => uptoBulk d + 1
  | .slice elems spare => uptoBulkAll elems + uptoBulkAll spare + 1
  | .agg parts => uptoBulkAll parts + 1
  | .iface _ d => uptoBulk d + 1
  | .map entries => uptoBulkEntries entries + 1
  | .held _ => 1
def uptoBulkAll {H : Type} : List (DataW H) → Nat
  | [] => 0
  | d :: r => uptoBulk d + uptoBulkAll r
def uptoBulkEntries {H : Type} : List (Lit × DataW H) → Nat
  | [] => 0
  | x :: r => uptoBulkEntry x + uptoBulkEntries r
def uptoBulkEntry {H : Type} : Lit × DataW H → Nat
  | (.string bytes, d) => bytes.length + uptoBulk d + 1
  | (_, d) => uptoBulk d + 1
 end
def uptoSmall : (H : Type) → List (DataW H) → Bool := fun _ ds => decide (uptoBulkAll ds ≤ 1048576)
def OpenSpec.upto (s : _root_.Go.ChangeSpec) : _root_.Go.OpenSpec := { _root_.Go.OpenSpec.ofChange s with cond := some uptoSmall }

/-- 'laws.FnExactTakeTicket', WHERE WHAT IT READS IS OF BULK AT MOST 1048576: true; the input reads as it did. -/
def fnExactTakeTicketUptoRow : OpenClaim := { program := "ytbpjhdoldodlnaadoor", sum := "71f77e996abb8c73f5c74b3d6d2774a97af0a279c2c67d802e4e39f3ca80cfe6", func := "loop.example/g00610/laws.FnExactTakeTicket", spec := "fnExactTakeTicket", inPlace := ["internal/reflectlite.TypeOf", "internal/reflectlite.ValueOf", "(internal/reflectlite.Value).Type", "(internal/reflectlite.Value).IsNil", "(internal/reflectlite.Value).Elem", "(internal/reflectlite.Value).Set"], unfollowed := true, recurses := true, named := ["loop.example/g00610/impl.errNoRing", "loop.example/g00610/impl.errNotRight", "loop.example/g00610/impl.errNotRightThen", "errors.errorType"], ifaces := true, apart := false, laid := [("errors.errorType", laid_errors_errorType), ("loop.example/g00610/impl.errNotRight", laid_loop_example_g00610_impl_errNotRight), ("loop.example/g00610/impl.errNotRightThen", laid_loop_example_g00610_impl_errNotRightThen), ("loop.example/g00610/impl.errNoRing", laid_loop_example_g00610_impl_errNoRing)], narrowed := true }
def FnExactTakeTicketUptoSaid : Prop := fnExactTakeTicketUptoRow.holds Tryd.pinned (OpenSpec.upto fnExactTakeTicketSpec)

/-- 'laws.FnExactPutTicket', WHERE WHAT IT READS IS OF BULK AT MOST 1048576: true; the input reads as it did. -/
def fnExactPutTicketUptoRow : OpenClaim := { program := "ytbpjhdoldodlnaadoor", sum := "71f77e996abb8c73f5c74b3d6d2774a97af0a279c2c67d802e4e39f3ca80cfe6", func := "loop.example/g00610/laws.FnExactPutTicket", spec := "fnExactPutTicket", inPlace := ["internal/reflectlite.TypeOf", "internal/reflectlite.ValueOf", "(internal/reflectlite.Value).Type", "(internal/reflectlite.Value).IsNil", "(internal/reflectlite.Value).Elem", "(internal/reflectlite.Value).Set"], unfollowed := true, recurses := true, named := ["loop.example/g00610/impl.errNoRing", "loop.example/g00610/impl.errNotRight", "loop.example/g00610/impl.errNotRightThen", "errors.errorType"], ifaces := true, apart := false, laid := [("errors.errorType", laid_errors_errorType), ("loop.example/g00610/impl.errNotRight", laid_loop_example_g00610_impl_errNotRight), ("loop.example/g00610/impl.errNotRightThen", laid_loop_example_g00610_impl_errNotRightThen), ("loop.example/g00610/impl.errNoRing", laid_loop_example_g00610_impl_errNoRing)], narrowed := true }
def FnExactPutTicketUptoSaid : Prop := fnExactPutTicketUptoRow.holds Tryd.pinned (OpenSpec.upto fnExactPutTicketSpec)

/-- 'laws.FnExactSwapPlace', WHERE WHAT IT READS IS OF BULK AT MOST 1048576: true; the input reads as it did. -/
def fnExactSwapPlaceUptoRow : OpenClaim := { program := "ytbpjhdoldodlnaadoor", sum := "71f77e996abb8c73f5c74b3d6d2774a97af0a279c2c67d802e4e39f3ca80cfe6", func := "loop.example/g00610/laws.FnExactSwapPlace", spec := "fnExactSwapPlace", inPlace := ["internal/reflectlite.TypeOf", "internal/reflectlite.ValueOf", "(internal/reflectlite.Value).Type", "(internal/reflectlite.Value).IsNil", "(internal/reflectlite.Value).Elem", "(internal/reflectlite.Value).Set"], unfollowed := true, recurses := true, named := ["loop.example/g00610/impl.errNoPlace", "loop.example/g00610/impl.errNotSeen", "loop.example/g00610/impl.errNoRing", "loop.example/g00610/impl.errNotRight", "loop.example/g00610/impl.errNotRightThen", "errors.errorType"], ifaces := true, apart := false, laid := [("errors.errorType", laid_errors_errorType), ("loop.example/g00610/impl.errNotRight", laid_loop_example_g00610_impl_errNotRight), ("loop.example/g00610/impl.errNotRightThen", laid_loop_example_g00610_impl_errNotRightThen), ("loop.example/g00610/impl.errNoRing", laid_loop_example_g00610_impl_errNoRing), ("loop.example/g00610/impl.errNoPlace", laid_loop_example_g00610_impl_errNoPlace), ("loop.example/g00610/impl.errNotSeen", laid_loop_example_g00610_impl_errNotSeen)], narrowed := true }
def FnExactSwapPlaceUptoSaid : Prop := fnExactSwapPlaceUptoRow.holds Tryd.pinned (OpenSpec.upto fnExactSwapPlaceSpec)

/-- 'laws.FnExactClose', WHERE WHAT IT READS IS OF BULK AT MOST 1048576: true; the input reads as it did. -/
def fnExactCloseUptoRow : OpenClaim := { program := "ytbpjhdoldodlnaadoor", sum := "71f77e996abb8c73f5c74b3d6d2774a97af0a279c2c67d802e4e39f3ca80cfe6", func := "loop.example/g00610/laws.FnExactClose", spec := "fnExactClose", inPlace := ["internal/reflectlite.TypeOf", "internal/reflectlite.ValueOf", "(internal/reflectlite.Value).Type", "(internal/reflectlite.Value).IsNil", "(internal/reflectlite.Value).Elem", "(internal/reflectlite.Value).Set"], unfollowed := true, recurses := true, named := ["loop.example/g00610/impl.errNoRing", "loop.example/g00610/impl.errNotRight", "loop.example/g00610/impl.errNotRightThen", "errors.errorType"], ifaces := true, apart := false, laid := [("errors.errorType", laid_errors_errorType), ("loop.example/g00610/impl.errNotRight", laid_loop_example_g00610_impl_errNotRight), ("loop.example/g00610/impl.errNotRightThen", laid_loop_example_g00610_impl_errNotRightThen), ("loop.example/g00610/impl.errNoRing", laid_loop_example_g00610_impl_errNoRing)], narrowed := true }
def FnExactCloseUptoSaid : Prop := fnExactCloseUptoRow.holds Tryd.pinned (OpenSpec.upto fnExactCloseSpec)

/-- 'laws.FnExactRaiseTail', WHERE WHAT IT READS IS OF BULK AT MOST 1048576: true; the input reads as it did. -/
def fnExactRaiseTailUptoRow : OpenClaim := { program := "ytbpjhdoldodlnaadoor", sum := "71f77e996abb8c73f5c74b3d6d2774a97af0a279c2c67d802e4e39f3ca80cfe6", func := "loop.example/g00610/laws.FnExactRaiseTail", spec := "fnExactRaiseTail", inPlace := ["internal/reflectlite.TypeOf", "internal/reflectlite.ValueOf", "(internal/reflectlite.Value).Type", "(internal/reflectlite.Value).IsNil", "(internal/reflectlite.Value).Elem", "(internal/reflectlite.Value).Set"], unfollowed := true, recurses := true, named := ["loop.example/g00610/impl.errClosed", "loop.example/g00610/impl.errNotSeen", "loop.example/g00610/impl.errNoRing", "loop.example/g00610/impl.errNotRight", "loop.example/g00610/impl.errNotRightThen", "errors.errorType"], ifaces := true, apart := false, laid := [("errors.errorType", laid_errors_errorType), ("loop.example/g00610/impl.errNotRight", laid_loop_example_g00610_impl_errNotRight), ("loop.example/g00610/impl.errNotRightThen", laid_loop_example_g00610_impl_errNotRightThen), ("loop.example/g00610/impl.errNoRing", laid_loop_example_g00610_impl_errNoRing), ("loop.example/g00610/impl.errNotSeen", laid_loop_example_g00610_impl_errNotSeen), ("loop.example/g00610/impl.errClosed", laid_loop_example_g00610_impl_errClosed)], narrowed := true }
def FnExactRaiseTailUptoSaid : Prop := fnExactRaiseTailUptoRow.holds Tryd.pinned (OpenSpec.upto fnExactRaiseTailSpec)

/-- 'laws.FnExactAddRing', WHERE WHAT IT READS IS OF BULK AT MOST 1048576: true; the input reads as it did. -/
def fnExactAddRingUptoRow : OpenClaim := { program := "ytbpjhdoldodlnaadoor", sum := "71f77e996abb8c73f5c74b3d6d2774a97af0a279c2c67d802e4e39f3ca80cfe6", func := "loop.example/g00610/laws.FnExactAddRing", spec := "fnExactAddRing", inPlace := ["internal/reflectlite.TypeOf", "internal/reflectlite.ValueOf", "(internal/reflectlite.Value).Type", "(internal/reflectlite.Value).IsNil", "(internal/reflectlite.Value).Elem", "(internal/reflectlite.Value).Set"], unfollowed := true, recurses := true, named := ["loop.example/g00610/impl.errNoValue", "loop.example/g00610/impl.errNotRight", "loop.example/g00610/impl.errNotRightThen", "errors.errorType"], ifaces := true, apart := false, laid := [("errors.errorType", laid_errors_errorType), ("loop.example/g00610/impl.errNotRight", laid_loop_example_g00610_impl_errNotRight), ("loop.example/g00610/impl.errNotRightThen", laid_loop_example_g00610_impl_errNotRightThen), ("loop.example/g00610/impl.errNoValue", laid_loop_example_g00610_impl_errNoValue)], narrowed := true }
def FnExactAddRingUptoSaid : Prop := fnExactAddRingUptoRow.holds Tryd.pinned (OpenSpec.upto fnExactAddRingSpec)

/-- 'laws.FnExactLink', WHERE WHAT IT READS IS OF BULK AT MOST 1048576: true; the input reads as it did. -/
def fnExactLinkUptoRow : OpenClaim := { program := "ytbpjhdoldodlnaadoor", sum := "71f77e996abb8c73f5c74b3d6d2774a97af0a279c2c67d802e4e39f3ca80cfe6", func := "loop.example/g00610/laws.FnExactLink", spec := "fnExactLink", inPlace := ["internal/reflectlite.TypeOf", "internal/reflectlite.ValueOf", "(internal/reflectlite.Value).Type", "(internal/reflectlite.Value).IsNil", "(internal/reflectlite.Value).Elem", "(internal/reflectlite.Value).Set"], unfollowed := true, recurses := true, named := ["loop.example/g00610/impl.errNoRing", "loop.example/g00610/impl.errNotSeen", "loop.example/g00610/impl.errNotRight", "loop.example/g00610/impl.errNotRightThen", "errors.errorType"], ifaces := true, apart := false, laid := [("errors.errorType", laid_errors_errorType), ("loop.example/g00610/impl.errNotRight", laid_loop_example_g00610_impl_errNotRight), ("loop.example/g00610/impl.errNotRightThen", laid_loop_example_g00610_impl_errNotRightThen), ("loop.example/g00610/impl.errNoRing", laid_loop_example_g00610_impl_errNoRing), ("loop.example/g00610/impl.errNotSeen", laid_loop_example_g00610_impl_errNotSeen)], narrowed := true }
def FnExactLinkUptoSaid : Prop := fnExactLinkUptoRow.holds Tryd.pinned (OpenSpec.upto fnExactLinkSpec)

/-- 'laws.FnExactSwing', WHERE WHAT IT READS IS OF BULK AT MOST 1048576: true; the input reads as it did. -/
def fnExactSwingUptoRow : OpenClaim := { program := "ytbpjhdoldodlnaadoor", sum := "71f77e996abb8c73f5c74b3d6d2774a97af0a279c2c67d802e4e39f3ca80cfe6", func := "loop.example/g00610/laws.FnExactSwing", spec := "fnExactSwing", inPlace := ["internal/reflectlite.TypeOf", "internal/reflectlite.ValueOf", "(internal/reflectlite.Value).Type", "(internal/reflectlite.Value).IsNil", "(internal/reflectlite.Value).Elem", "(internal/reflectlite.Value).Set"], unfollowed := true, recurses := true, named := ["loop.example/g00610/impl.errNotSeen", "loop.example/g00610/impl.errNotRight", "loop.example/g00610/impl.errNotRightThen", "errors.errorType"], ifaces := true, apart := false, laid := [("errors.errorType", laid_errors_errorType), ("loop.example/g00610/impl.errNotRight", laid_loop_example_g00610_impl_errNotRight), ("loop.example/g00610/impl.errNotRightThen", laid_loop_example_g00610_impl_errNotRightThen), ("loop.example/g00610/impl.errNotSeen", laid_loop_example_g00610_impl_errNotSeen)], narrowed := true }
def FnExactSwingUptoSaid : Prop := fnExactSwingUptoRow.holds Tryd.pinned (OpenSpec.upto fnExactSwingSpec)

end Rows
end Go.Proofs.YtbpjhdoldodlnaaDoor
