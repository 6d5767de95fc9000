/-
  NARROWER THAN 'FOR EVERY INPUT', by the rows' own cells (each row's printed sentence says how): FnExactPutStep: ifaces, laid · FnPutStep: ifaces, laid · FnTickets: ifaces, laid · FnSwaps: ifaces, laid · FnLinks: ifaces, laid.
  DERIVED. THE GIVEN ROWS OF THIS SEAT. 5 by the template 'for every input the law returns true; each argument reads behind the call as it read before'; 0 by the template 'total and deterministic' (their statements: YtaieigdnfdnnpaaGreatDoorTotals.lean).
  GIVEN WITH THE SEED: the statements are not yours to turn. If you find one false, say at which input.
  Laid BY PROGRAM, IN A SANDBOX (cutbox-rows.mjs): the forced cells as the released guide's own fill.sh prints them over the translation bf92539f5e6e1838… (all of the seat's roots in one cut). By AI agents, Wed Nov 11 2026. No macro, syntax, notation, axiom, sorry.
-/
import Derived.Test.YtaieigdnfdnnpaaGreatDoorChecked
import GoSem.Claim
import GoSem.ClaimJoined
import GoSem.ClaimMapViews
import Derived.JoinedTies
import Derived.KernelRfl
namespace Go.Proofs.YtaieigdnfdnnpaaGreatDoor
/- THE CELL 'sum', in the pinned program and in every row, IS THE sha256 OF THE DUMP (.gsa) THAT YtaieigdnfdnnpaaGreatDoorProg.lean LOADS. Nothing in Lean hashes anything: it is a label: what it is worth is what the hold of that sum in a sandbox is worth. -/
noncomputable def Tryz.pinned : Pinned := { name := "ytaieigdnfdnnpaagreatdoor", sum := "bf92539f5e6e18383f74d7d62d7ab06017c5a18bb7d5ee3655115f3e4388f985", checked := Tryz.checked }
namespace Rows
def none {H : Type} : Left H := { results := [], args := [] }

/- WHAT THE LISTED PACKAGE-LEVEL VARIABLES READ AS WHEN THE CALL BEGINS. Each datum BY PROGRAM (the guide's laid-datum.mjs) off the statement by which the dump's own 'gosem.cut.vars' lays the variable. In a bare row this is a premise. The card (YtaieigdnfdnnpaaGreatDoorCards.lean) ties it to the program's text. -/
def laid_errors_errorType {H : Type} : DataW H := .iface "internal/reflectlite.rtype" (.agg [.ptr (.lit (.string [101, 114, 114, 111, 114]))])
def laid_loop_example_g00610_impl_errNotRight {H : Type} : DataW H := .iface "*errors.errorString" (.ptr (.agg [.lit (.string [116, 104, 101, 32, 115, 116, 111, 114, 101, 32, 105, 115, 32, 110, 111, 116, 32, 114, 105, 103, 104, 116])]))
def laid_loop_example_g00610_impl_errNotRightThen {H : Type} : DataW H := .iface "*errors.errorString" (.ptr (.agg [.lit (.string [116, 104, 101, 32, 115, 116, 111, 114, 101, 32, 119, 111, 117, 108, 100, 32, 110, 111, 116, 32, 98, 101, 32, 114, 105, 103, 104, 116, 32, 116, 104, 101, 110])]))
def laid_loop_example_g00610_impl_errNoRing {H : Type} : DataW H := .iface "*errors.errorString" (.ptr (.agg [.lit (.string [116, 104, 101, 114, 101, 32, 105, 115, 32, 110, 111, 32, 115, 117, 99, 104, 32, 114, 105, 110, 103])]))
def laid_loop_example_g00610_impl_errNoPlace {H : Type} : DataW H := .iface "*errors.errorString" (.ptr (.agg [.lit (.string [116, 104, 101, 114, 101, 32, 105, 115, 32, 110, 111, 32, 115, 117, 99, 104, 32, 112, 108, 97, 99, 101])]))
def laid_loop_example_g00610_impl_errNoValue {H : Type} : DataW H := .iface "*errors.errorString" (.ptr (.agg [.lit (.string [105, 116, 32, 105, 115, 32, 110, 111, 32, 118, 97, 108, 117, 101])]))
def laid_loop_example_g00610_impl_errNotSeen {H : Type} : DataW H := .iface "*errors.errorString" (.ptr (.agg [.lit (.string [105, 116, 32, 105, 115, 32, 110, 111, 116, 32, 119, 104, 97, 116, 32, 119, 97, 115, 32, 115, 101, 101, 110])]))
def laid_loop_example_g00610_impl_errClosed {H : Type} : DataW H := .iface "*errors.errorString" (.ptr (.agg [.lit (.string [116, 104, 101, 32, 114, 105, 110, 103, 32, 105, 115, 32, 99, 108, 111, 115, 101, 100])]))

/-- 'laws.FnExactPutStep': WHATEVER THE INPUT: true; the input reads as it did. -/
def fnExactPutStepSpec : ChangeSpec := { name := "fnExactPutStep", vars := ["loop.example/g00610/impl.errNotSeen", "loop.example/g00610/impl.errNotRight", "loop.example/g00610/impl.errNotRightThen", "loop.example/g00610/impl.errNoRing", "loop.example/g00610/impl.errNoPlace", "loop.example/g00610/impl.errNoValue"], fn := fun _ => fun
  | [d1, d2, g1, g2, g3, g4, g5, g6] => { results := [.lit (.bool true)], args := [d1, d2], vars := [g1, g2, g3, g4, g5, g6] }
  | _ => none }
def fnExactPutStepRow : OpenClaim := { program := "ytaieigdnfdnnpaagreatdoor", sum := "bf92539f5e6e18383f74d7d62d7ab06017c5a18bb7d5ee3655115f3e4388f985", func := "loop.example/g00610/laws.FnExactPutStep", spec := "fnExactPutStep", inPlace := ["internal/reflectlite.TypeOf", "internal/reflectlite.ValueOf", "(internal/reflectlite.Value).Type", "(internal/reflectlite.Value).IsNil", "(internal/reflectlite.Value).Elem", "(internal/reflectlite.Value).Set"], unfollowed := true, recurses := true, named := ["loop.example/g00610/impl.errNotSeen", "loop.example/g00610/impl.errNotRight", "loop.example/g00610/impl.errNotRightThen", "errors.errorType", "loop.example/g00610/impl.errNoRing", "loop.example/g00610/impl.errNoPlace", "loop.example/g00610/impl.errNoValue"], ifaces := true, apart := false, laid := [("errors.errorType", laid_errors_errorType), ("loop.example/g00610/impl.errNotRight", laid_loop_example_g00610_impl_errNotRight), ("loop.example/g00610/impl.errNotRightThen", laid_loop_example_g00610_impl_errNotRightThen), ("loop.example/g00610/impl.errNoRing", laid_loop_example_g00610_impl_errNoRing), ("loop.example/g00610/impl.errNoPlace", laid_loop_example_g00610_impl_errNoPlace), ("loop.example/g00610/impl.errNoValue", laid_loop_example_g00610_impl_errNoValue), ("loop.example/g00610/impl.errNotSeen", laid_loop_example_g00610_impl_errNotSeen)] }
def FnExactPutStepSaid : Prop := fnExactPutStepRow.holds Tryz.pinned (OpenSpec.ofChange fnExactPutStepSpec)

/-- ITS FALSE NEIGHBOUR: 'it returns false'. Refute it at one input. -/
def fnExactPutStepWrong : ChangeSpec := { name := "fnExactPutStep", vars := ["loop.example/g00610/impl.errNotSeen", "loop.example/g00610/impl.errNotRight", "loop.example/g00610/impl.errNotRightThen", "loop.example/g00610/impl.errNoRing", "loop.example/g00610/impl.errNoPlace", "loop.example/g00610/impl.errNoValue"], fn := fun _ => fun
  | [d1, d2, g1, g2, g3, g4, g5, g6] => { results := [.lit (.bool false)], args := [d1, d2], vars := [g1, g2, g3, g4, g5, g6] }
  | _ => none }
def FnExactPutStepWrongFalsely : Prop := fnExactPutStepRow.holds Tryz.pinned (OpenSpec.ofChange fnExactPutStepWrong)

/-- 'laws.FnPutStep': WHATEVER THE INPUT: true; the input reads as it did. -/
def fnPutStepSpec : ChangeSpec := { name := "fnPutStep", vars := ["loop.example/g00610/impl.errNotSeen", "loop.example/g00610/impl.errNotRight", "loop.example/g00610/impl.errNotRightThen", "loop.example/g00610/impl.errNoRing", "loop.example/g00610/impl.errNoPlace", "loop.example/g00610/impl.errNoValue"], fn := fun _ => fun
  | [d, g1, g2, g3, g4, g5, g6] => { results := [.lit (.bool true)], args := [d], vars := [g1, g2, g3, g4, g5, g6] }
  | _ => none }
def fnPutStepRow : OpenClaim := { program := "ytaieigdnfdnnpaagreatdoor", sum := "bf92539f5e6e18383f74d7d62d7ab06017c5a18bb7d5ee3655115f3e4388f985", func := "loop.example/g00610/laws.FnPutStep", spec := "fnPutStep", inPlace := ["internal/reflectlite.TypeOf", "internal/reflectlite.ValueOf", "(internal/reflectlite.Value).Type", "(internal/reflectlite.Value).IsNil", "(internal/reflectlite.Value).Elem", "(internal/reflectlite.Value).Set"], unfollowed := true, recurses := true, named := ["loop.example/g00610/impl.errNotSeen", "loop.example/g00610/impl.errNotRight", "loop.example/g00610/impl.errNotRightThen", "errors.errorType", "loop.example/g00610/impl.errNoRing", "loop.example/g00610/impl.errNoPlace", "loop.example/g00610/impl.errNoValue"], ifaces := true, apart := false, laid := [("errors.errorType", laid_errors_errorType), ("loop.example/g00610/impl.errNotRight", laid_loop_example_g00610_impl_errNotRight), ("loop.example/g00610/impl.errNotRightThen", laid_loop_example_g00610_impl_errNotRightThen), ("loop.example/g00610/impl.errNoRing", laid_loop_example_g00610_impl_errNoRing), ("loop.example/g00610/impl.errNoPlace", laid_loop_example_g00610_impl_errNoPlace), ("loop.example/g00610/impl.errNoValue", laid_loop_example_g00610_impl_errNoValue), ("loop.example/g00610/impl.errNotSeen", laid_loop_example_g00610_impl_errNotSeen)] }
def FnPutStepSaid : Prop := fnPutStepRow.holds Tryz.pinned (OpenSpec.ofChange fnPutStepSpec)

/-- ITS FALSE NEIGHBOUR: 'it returns false'. Refute it at one input. -/
def fnPutStepWrong : ChangeSpec := { name := "fnPutStep", vars := ["loop.example/g00610/impl.errNotSeen", "loop.example/g00610/impl.errNotRight", "loop.example/g00610/impl.errNotRightThen", "loop.example/g00610/impl.errNoRing", "loop.example/g00610/impl.errNoPlace", "loop.example/g00610/impl.errNoValue"], fn := fun _ => fun
  | [d, g1, g2, g3, g4, g5, g6] => { results := [.lit (.bool false)], args := [d], vars := [g1, g2, g3, g4, g5, g6] }
  | _ => none }
def FnPutStepWrongFalsely : Prop := fnPutStepRow.holds Tryz.pinned (OpenSpec.ofChange fnPutStepWrong)

/-- 'laws.FnTickets': WHATEVER THE INPUT: true; the input reads as it did. -/
def fnTicketsSpec : ChangeSpec := { name := "fnTickets", vars := ["loop.example/g00610/impl.errNoRing", "loop.example/g00610/impl.errNotRight", "loop.example/g00610/impl.errNotRightThen"], fn := fun _ => fun
  | [d, g1, g2, g3] => { results := [.lit (.bool true)], args := [d], vars := [g1, g2, g3] }
  | _ => none }
def fnTicketsRow : OpenClaim := { program := "ytaieigdnfdnnpaagreatdoor", sum := "bf92539f5e6e18383f74d7d62d7ab06017c5a18bb7d5ee3655115f3e4388f985", func := "loop.example/g00610/laws.FnTickets", spec := "fnTickets", inPlace := ["internal/reflectlite.TypeOf", "internal/reflectlite.ValueOf", "(internal/reflectlite.Value).Type", "(internal/reflectlite.Value).IsNil", "(internal/reflectlite.Value).Elem", "(internal/reflectlite.Value).Set"], unfollowed := true, recurses := true, named := ["loop.example/g00610/impl.errNoRing", "loop.example/g00610/impl.errNotRight", "loop.example/g00610/impl.errNotRightThen", "errors.errorType"], ifaces := true, apart := false, laid := [("errors.errorType", laid_errors_errorType), ("loop.example/g00610/impl.errNotRight", laid_loop_example_g00610_impl_errNotRight), ("loop.example/g00610/impl.errNotRightThen", laid_loop_example_g00610_impl_errNotRightThen), ("loop.example/g00610/impl.errNoRing", laid_loop_example_g00610_impl_errNoRing)] }
def FnTicketsSaid : Prop := fnTicketsRow.holds Tryz.pinned (OpenSpec.ofChange fnTicketsSpec)

/-- ITS FALSE NEIGHBOUR: 'it returns false'. Refute it at one input. -/
def fnTicketsWrong : ChangeSpec := { name := "fnTickets", vars := ["loop.example/g00610/impl.errNoRing", "loop.example/g00610/impl.errNotRight", "loop.example/g00610/impl.errNotRightThen"], fn := fun _ => fun
  | [d, g1, g2, g3] => { results := [.lit (.bool false)], args := [d], vars := [g1, g2, g3] }
  | _ => none }
def FnTicketsWrongFalsely : Prop := fnTicketsRow.holds Tryz.pinned (OpenSpec.ofChange fnTicketsWrong)

/-- 'laws.FnSwaps': WHATEVER THE INPUT: true; the input reads as it did. -/
def fnSwapsSpec : ChangeSpec := { name := "fnSwaps", vars := ["loop.example/g00610/impl.errNoPlace", "loop.example/g00610/impl.errNotSeen", "loop.example/g00610/impl.errNoRing", "loop.example/g00610/impl.errNotRight", "loop.example/g00610/impl.errNotRightThen", "loop.example/g00610/impl.errClosed"], fn := fun _ => fun
  | [d, g1, g2, g3, g4, g5, g6] => { results := [.lit (.bool true)], args := [d], vars := [g1, g2, g3, g4, g5, g6] }
  | _ => none }
def fnSwapsRow : OpenClaim := { program := "ytaieigdnfdnnpaagreatdoor", sum := "bf92539f5e6e18383f74d7d62d7ab06017c5a18bb7d5ee3655115f3e4388f985", func := "loop.example/g00610/laws.FnSwaps", spec := "fnSwaps", inPlace := ["internal/reflectlite.TypeOf", "internal/reflectlite.ValueOf", "(internal/reflectlite.Value).Type", "(internal/reflectlite.Value).IsNil", "(internal/reflectlite.Value).Elem", "(internal/reflectlite.Value).Set"], unfollowed := true, recurses := true, named := ["loop.example/g00610/impl.errNoPlace", "loop.example/g00610/impl.errNotSeen", "loop.example/g00610/impl.errNoRing", "loop.example/g00610/impl.errNotRight", "loop.example/g00610/impl.errNotRightThen", "errors.errorType", "loop.example/g00610/impl.errClosed"], ifaces := true, apart := false, laid := [("errors.errorType", laid_errors_errorType), ("loop.example/g00610/impl.errNotRight", laid_loop_example_g00610_impl_errNotRight), ("loop.example/g00610/impl.errNotRightThen", laid_loop_example_g00610_impl_errNotRightThen), ("loop.example/g00610/impl.errNoRing", laid_loop_example_g00610_impl_errNoRing), ("loop.example/g00610/impl.errNoPlace", laid_loop_example_g00610_impl_errNoPlace), ("loop.example/g00610/impl.errNotSeen", laid_loop_example_g00610_impl_errNotSeen), ("loop.example/g00610/impl.errClosed", laid_loop_example_g00610_impl_errClosed)] }
def FnSwapsSaid : Prop := fnSwapsRow.holds Tryz.pinned (OpenSpec.ofChange fnSwapsSpec)

/-- ITS FALSE NEIGHBOUR: 'it returns false'. Refute it at one input. -/
def fnSwapsWrong : ChangeSpec := { name := "fnSwaps", vars := ["loop.example/g00610/impl.errNoPlace", "loop.example/g00610/impl.errNotSeen", "loop.example/g00610/impl.errNoRing", "loop.example/g00610/impl.errNotRight", "loop.example/g00610/impl.errNotRightThen", "loop.example/g00610/impl.errClosed"], fn := fun _ => fun
  | [d, g1, g2, g3, g4, g5, g6] => { results := [.lit (.bool false)], args := [d], vars := [g1, g2, g3, g4, g5, g6] }
  | _ => none }
def FnSwapsWrongFalsely : Prop := fnSwapsRow.holds Tryz.pinned (OpenSpec.ofChange fnSwapsWrong)

/-- 'laws.FnLinks': WHATEVER THE INPUT: true; the input reads as it did. -/
def fnLinksSpec : ChangeSpec := { name := "fnLinks", vars := ["loop.example/g00610/impl.errNoValue", "loop.example/g00610/impl.errNotRight", "loop.example/g00610/impl.errNotRightThen", "loop.example/g00610/impl.errNoRing", "loop.example/g00610/impl.errNotSeen"], fn := fun _ => fun
  | [d, g1, g2, g3, g4, g5] => { results := [.lit (.bool true)], args := [d], vars := [g1, g2, g3, g4, g5] }
  | _ => none }
def fnLinksRow : OpenClaim := { program := "ytaieigdnfdnnpaagreatdoor", sum := "bf92539f5e6e18383f74d7d62d7ab06017c5a18bb7d5ee3655115f3e4388f985", func := "loop.example/g00610/laws.FnLinks", spec := "fnLinks", inPlace := ["internal/reflectlite.TypeOf", "internal/reflectlite.ValueOf", "(internal/reflectlite.Value).Type", "(internal/reflectlite.Value).IsNil", "(internal/reflectlite.Value).Elem", "(internal/reflectlite.Value).Set"], unfollowed := true, recurses := true, named := ["loop.example/g00610/impl.errNoValue", "loop.example/g00610/impl.errNotRight", "loop.example/g00610/impl.errNotRightThen", "errors.errorType", "loop.example/g00610/impl.errNoRing", "loop.example/g00610/impl.errNotSeen"], ifaces := true, apart := false, laid := [("errors.errorType", laid_errors_errorType), ("loop.example/g00610/impl.errNotRight", laid_loop_example_g00610_impl_errNotRight), ("loop.example/g00610/impl.errNotRightThen", laid_loop_example_g00610_impl_errNotRightThen), ("loop.example/g00610/impl.errNoRing", laid_loop_example_g00610_impl_errNoRing), ("loop.example/g00610/impl.errNoValue", laid_loop_example_g00610_impl_errNoValue), ("loop.example/g00610/impl.errNotSeen", laid_loop_example_g00610_impl_errNotSeen)] }
def FnLinksSaid : Prop := fnLinksRow.holds Tryz.pinned (OpenSpec.ofChange fnLinksSpec)

/-- ITS FALSE NEIGHBOUR: 'it returns false'. Refute it at one input. -/
def fnLinksWrong : ChangeSpec := { name := "fnLinks", vars := ["loop.example/g00610/impl.errNoValue", "loop.example/g00610/impl.errNotRight", "loop.example/g00610/impl.errNotRightThen", "loop.example/g00610/impl.errNoRing", "loop.example/g00610/impl.errNotSeen"], fn := fun _ => fun
  | [d, g1, g2, g3, g4, g5] => { results := [.lit (.bool false)], args := [d], vars := [g1, g2, g3, g4, g5] }
  | _ => none }
def FnLinksWrongFalsely : Prop := fnLinksRow.holds Tryz.pinned (OpenSpec.ofChange fnLinksWrong)

/- THE SECOND FORM. 'bulk': how many values and letters a reading holds, each counted each time it is reached (what is shared counts as often as it is met; a slice's spare places count too). A statement '..UptoSaid' is the law's where the arguments, and the package variables that the reading takes, are together of bulk at most 1048576: NARROWER than '..Said'. Prove '..Said' where nothing that the law and all that it calls make is longer than what came in: it says more and counts as full. Else prove '..UptoSaid'. A law counts once. -/
mutual
def uptoBulk {H : Type} : DataW H → Nat
  | .lit (.string bytes) => bytes.length + 1
  | .lit _ => 1
  | .nil => 1
  | .ptr d => uptoBulk d + 1
  | .slice elems spare => uptoBulkAll elems + uptoBulkAll spare + 1
  | .agg parts => uptoBulkAll parts + 1
  | .iface _ d => uptoBulk d + 1
  | .map entries => uptoBulkEntries entries + 1
  | .held _ => 1
def uptoBulkAll {H : Type} : List (DataW H) → Nat
  | [] => 0
  | d :: r => uptoBulk d + uptoBulkAll r
def uptoBulkEntries {H : Type} : List (Lit × DataW H) → Nat
  | [] => 0
  | x :: r => uptoBulkEntry x + uptoBulkEntries r
def uptoBulkEntry {H : Type} : Lit × DataW H → Nat
  | (.string bytes, d) => bytes.length + uptoBulk d + 1
  | (_, d) => uptoBulk d + 1
 end
def uptoSmall : (H : Type) → List (DataW H) → Bool := fun _ ds => decide (uptoBulkAll ds ≤ 1048576)
def OpenSpec.upto (s : _root_.Go.ChangeSpec) : _root_.Go.OpenSpec := { _root_.Go.OpenSpec.ofChange s with cond := some uptoSmall }

/-- 'laws.FnExactPutStep', WHERE WHAT IT READS IS OF BULK AT MOST 1048576: true; the input reads as it did. -/
def fnExactPutStepUptoRow : OpenClaim := { program := "ytaieigdnfdnnpaagreatdoor", sum := "bf92539f5e6e18383f74d7d62d7ab06017c5a18bb7d5ee3655115f3e4388f985", func := "loop.example/g00610/laws.FnExactPutStep", spec := "fnExactPutStep", inPlace := ["internal/reflectlite.TypeOf", "internal/reflectlite.ValueOf", "(internal/reflectlite.Value).Type", "(internal/reflectlite.Value).IsNil", "(internal/reflectlite.Value).Elem", "(internal/reflectlite.Value).Set"], unfollowed := true, recurses := true, named := ["loop.example/g00610/impl.errNotSeen", "loop.example/g00610/impl.errNotRight", "loop.example/g00610/impl.errNotRightThen", "errors.errorType", "loop.example/g00610/impl.errNoRing", "loop.example/g00610/impl.errNoPlace", "loop.example/g00610/impl.errNoValue"], ifaces := true, apart := false, laid := [("errors.errorType", laid_errors_errorType), ("loop.example/g00610/impl.errNotRight", laid_loop_example_g00610_impl_errNotRight), ("loop.example/g00610/impl.errNotRightThen", laid_loop_example_g00610_impl_errNotRightThen), ("loop.example/g00610/impl.errNoRing", laid_loop_example_g00610_impl_errNoRing), ("loop.example/g00610/impl.errNoPlace", laid_loop_example_g00610_impl_errNoPlace), ("loop.example/g00610/impl.errNoValue", laid_loop_example_g00610_impl_errNoValue), ("loop.example/g00610/impl.errNotSeen", laid_loop_example_g00610_impl_errNotSeen)], narrowed := true }
def FnExactPutStepUptoSaid : Prop := fnExactPutStepUptoRow.holds Tryz.pinned (OpenSpec.upto fnExactPutStepSpec)

/-- 'laws.FnPutStep', WHERE WHAT IT READS IS OF BULK AT MOST 1048576: true; the input reads as it did. -/
def fnPutStepUptoRow : OpenClaim := { program := "ytaieigdnfdnnpaagreatdoor", sum := "bf92539f5e6e18383f74d7d62d7ab06017c5a18bb7d5ee3655115f3e4388f985", func := "loop.example/g00610/laws.FnPutStep", spec := "fnPutStep", inPlace := ["internal/reflectlite.TypeOf", "internal/reflectlite.ValueOf", "(internal/reflectlite.Value).Type", "(internal/reflectlite.Value).IsNil", "(internal/reflectlite.Value).Elem", "(internal/reflectlite.Value).Set"], unfollowed := true, recurses := true, named := ["loop.example/g00610/impl.errNotSeen", "loop.example/g00610/impl.errNotRight", "loop.example/g00610/impl.errNotRightThen", "errors.errorType", "loop.example/g00610/impl.errNoRing", "loop.example/g00610/impl.errNoPlace", "loop.example/g00610/impl.errNoValue"], ifaces := true, apart := false, laid := [("errors.errorType", laid_errors_errorType), ("loop.example/g00610/impl.errNotRight", laid_loop_example_g00610_impl_errNotRight), ("loop.example/g00610/impl.errNotRightThen", laid_loop_example_g00610_impl_errNotRightThen), ("loop.example/g00610/impl.errNoRing", laid_loop_example_g00610_impl_errNoRing), ("loop.example/g00610/impl.errNoPlace", laid_loop_example_g00610_impl_errNoPlace), ("loop.example/g00610/impl.errNoValue", laid_loop_example_g00610_impl_errNoValue), ("loop.example/g00610/impl.errNotSeen", laid_loop_example_g00610_impl_errNotSeen)], narrowed := true }
def FnPutStepUptoSaid : Prop := fnPutStepUptoRow.holds Tryz.pinned (OpenSpec.upto fnPutStepSpec)

/-- 'laws.FnTickets', WHERE WHAT IT READS IS OF BULK AT MOST 1048576: true; the input reads as it did. -/
def fnTicketsUptoRow : OpenClaim := { program := "ytaieigdnfdnnpaagreatdoor", sum := "bf92539f5e6e18383f74d7d62d7ab06017c5a18bb7d5ee3655115f3e4388f985", func := "loop.example/g00610/laws.FnTickets", spec := "fnTickets", inPlace := ["internal/reflectlite.TypeOf", "internal/reflectlite.ValueOf", "(internal/reflectlite.Value).Type", "(internal/reflectlite.Value).IsNil", "(internal/reflectlite.Value).Elem", "(internal/reflectlite.Value).Set"], unfollowed := true, recurses := true, named := ["loop.example/g00610/impl.errNoRing", "loop.example/g00610/impl.errNotRight", "loop.example/g00610/impl.errNotRightThen", "errors.errorType"], ifaces := true, apart := false, laid := [("errors.errorType", laid_errors_errorType), ("loop.example/g00610/impl.errNotRight", laid_loop_example_g00610_impl_errNotRight), ("loop.example/g00610/impl.errNotRightThen", laid_loop_example_g00610_impl_errNotRightThen), ("loop.example/g00610/impl.errNoRing", laid_loop_example_g00610_impl_errNoRing)], narrowed := true }
def FnTicketsUptoSaid : Prop := fnTicketsUptoRow.holds Tryz.pinned (OpenSpec.upto fnTicketsSpec)

/-- 'laws.FnSwaps', WHERE WHAT IT READS IS OF BULK AT MOST 1048576: true; the input reads as it did. -/
def fnSwapsUptoRow : OpenClaim := { program := "ytaieigdnfdnnpaagreatdoor", sum := "bf92539f5e6e18383f74d7d62d7ab06017c5a18bb7d5ee3655115f3e4388f985", func := "loop.example/g00610/laws.FnSwaps", spec := "fnSwaps", inPlace := ["internal/reflectlite.TypeOf", "internal/reflectlite.ValueOf", "(internal/reflectlite.Value).Type", "(internal/reflectlite.Value).IsNil", "(internal/reflectlite.Value).Elem", "(internal/reflectlite.Value).Set"], unfollowed := true, recurses := true, named := ["loop.example/g00610/impl.errNoPlace", "loop.example/g00610/impl.errNotSeen", "loop.example/g00610/impl.errNoRing", "loop.example/g00610/impl.errNotRight", "loop.example/g00610/impl.errNotRightThen", "errors.errorType", "loop.example/g00610/impl.errClosed"], ifaces := true, apart := false, laid := [("errors.errorType", laid_errors_errorType), ("loop.example/g00610/impl.errNotRight", laid_loop_example_g00610_impl_errNotRight), ("loop.example/g00610/impl.errNotRightThen", laid_loop_example_g00610_impl_errNotRightThen), ("loop.example/g00610/impl.errNoRing", laid_loop_example_g00610_impl_errNoRing), ("loop.example/g00610/impl.errNoPlace", laid_loop_example_g00610_impl_errNoPlace), ("loop.example/g00610/impl.errNotSeen", laid_loop_example_g00610_impl_errNotSeen), ("loop.example/g00610/impl.errClosed", laid_loop_example_g00610_impl_errClosed)], narrowed := true }
def FnSwapsUptoSaid : Prop := fnSwapsUptoRow.holds Tryz.pinned (OpenSpec.upto fnSwapsSpec)

/-- 'laws.FnLinks', WHERE WHAT IT READS IS OF BULK AT MOST 1048576: true; the input reads as it did. -/
def fnLinksUptoRow : OpenClaim := { program := "ytaieigdnfdnnpaagreatdoor", sum := "bf92539f5e6e18383f74d7d62d7ab06017c5a18bb7d5ee3655115f3e4388f985", func := "loop.example/g00610/laws.FnLinks", spec := "fnLinks", inPlace := ["internal/reflectlite.TypeOf", "internal/reflectlite.ValueOf", "(internal/reflectlite.Value).Type", "(internal/reflectlite.Value).IsNil", "(internal/reflectlite.Value).Elem", "(internal/reflectlite.Value).Set"], unfollowed := true, recurses := true, named := ["loop.example/g00610/impl.errNoValue", "loop.example/g00610/impl.errNotRight", "loop.example/g00610/impl.errNotRightThen", "errors.errorType", "loop.example/g00610/impl.errNoRing", "loop.example/g00610/impl.errNotSeen"], ifaces := true, apart := false, laid := [("errors.errorType", laid_errors_errorType), ("loop.example/g00610/impl.errNotRight", laid_loop_example_g00610_impl_errNotRight), ("loop.example/g00610/impl.errNotRightThen", laid_loop_example_g00610_impl_errNotRightThen), ("loop.example/g00610/impl.errNoRing", laid_loop_example_g00610_impl_errNoRing), ("loop.example/g00610/impl.errNoValue", laid_loop_example_g00610_impl_errNoValue), ("loop.example/g00610/impl.errNotSeen", laid_loop_example_g00610_impl_errNotSeen)], narrowed := true }
def FnLinksUptoSaid : Prop := fnLinksUptoRow.holds Tryz.pinned (OpenSpec.upto fnLinksSpec)

end Rows
end Go.Proofs.YtaieigdnfdnnpaaGreatDoor
