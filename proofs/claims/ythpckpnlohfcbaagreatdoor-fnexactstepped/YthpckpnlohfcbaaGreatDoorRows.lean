/-
  NARROWER THAN 'FOR EVERY INPUT', by the rows' own cells (each row's printed sentence says how): FnExactStepped: ifaces, laid · FnExactAlone: ifaces, laid · FnExactPutAlone: ifaces, laid · FnExactTakeAlone: ifaces, laid.
  DERIVED. THE GIVEN ROWS OF THIS SEAT. 4 by the template 'for every input the law returns true; each argument reads behind the call as it read before'; 0 by the template 'total and deterministic' (their statements: YthpckpnlohfcbaaGreatDoorTotals.lean).
  GIVEN WITH THE SEED: the statements are not yours to turn. If you find one false, say at which input.
  Laid BY PROGRAM, IN A SANDBOX (cutbox-rows.mjs): the forced cells as the released guide's own fill.sh prints them over the translation e5e7727c0252a29c… (all of the seat's roots in one cut). By AI agents, Wed Nov 11 2026. No macro, syntax, notation, axiom, sorry.
-/
import Derived.Test.YthpckpnlohfcbaaGreatDoorChecked
import GoSem.Claim
import GoSem.ClaimJoined
import GoSem.ClaimMapViews
import Derived.JoinedTies
import Derived.KernelRfl
namespace Go.Proofs.YthpckpnlohfcbaaGreatDoor
/- THE CELL 'sum', in the pinned program and in every row, IS THE sha256 OF THE DUMP (.gsa) THAT YthpckpnlohfcbaaGreatDoorProg.lean LOADS. Nothing in Lean hashes anything: it is a label: what it is worth is what the hold of that sum in a sandbox is worth. -/
noncomputable def Tryz.pinned : Pinned := { name := "ythpckpnlohfcbaagreatdoor", sum := "e5e7727c0252a29c11276b03fd446a37b19e22d78fee656e91cc110eeffd412f", checked := Tryz.checked }
namespace Rows
def none {H : Type} : Left H := { results := [], args := [] }

/- WHAT THE LISTED PACKAGE-LEVEL VARIABLES READ AS WHEN THE CALL BEGINS. Each datum BY PROGRAM (the guide's laid-datum.mjs) off the statement by which the dump's own 'gosem.cut.vars' lays the variable. In a bare row this is a premise. The card (YthpckpnlohfcbaaGreatDoorCards.lean) ties it to the program's text. -/
def laid_errors_errorType {H : Type} : DataW H := .iface "internal/reflectlite.rtype" (.agg [.ptr (.lit (.string [101, 114, 114, 111, 114]))])
def laid_loop_example_g00610_impl_errNotRight {H : Type} : DataW H := .iface "*errors.errorString" (.ptr (.agg [.lit (.string [116, 104, 101, 32, 115, 116, 111, 114, 101, 32, 105, 115, 32, 110, 111, 116, 32, 114, 105, 103, 104, 116])]))
def laid_loop_example_g00610_impl_errNotRightThen {H : Type} : DataW H := .iface "*errors.errorString" (.ptr (.agg [.lit (.string [116, 104, 101, 32, 115, 116, 111, 114, 101, 32, 119, 111, 117, 108, 100, 32, 110, 111, 116, 32, 98, 101, 32, 114, 105, 103, 104, 116, 32, 116, 104, 101, 110])]))
def laid_loop_example_g00610_impl_errNoRing {H : Type} : DataW H := .iface "*errors.errorString" (.ptr (.agg [.lit (.string [116, 104, 101, 114, 101, 32, 105, 115, 32, 110, 111, 32, 115, 117, 99, 104, 32, 114, 105, 110, 103])]))
def laid_loop_example_g00610_impl_errNoPlace {H : Type} : DataW H := .iface "*errors.errorString" (.ptr (.agg [.lit (.string [116, 104, 101, 114, 101, 32, 105, 115, 32, 110, 111, 32, 115, 117, 99, 104, 32, 112, 108, 97, 99, 101])]))
def laid_loop_example_g00610_impl_errNoValue {H : Type} : DataW H := .iface "*errors.errorString" (.ptr (.agg [.lit (.string [105, 116, 32, 105, 115, 32, 110, 111, 32, 118, 97, 108, 117, 101])]))
def laid_loop_example_g00610_impl_errNotSeen {H : Type} : DataW H := .iface "*errors.errorString" (.ptr (.agg [.lit (.string [105, 116, 32, 105, 115, 32, 110, 111, 116, 32, 119, 104, 97, 116, 32, 119, 97, 115, 32, 115, 101, 101, 110])]))
def laid_loop_example_g00610_impl_errClosed {H : Type} : DataW H := .iface "*errors.errorString" (.ptr (.agg [.lit (.string [116, 104, 101, 32, 114, 105, 110, 103, 32, 105, 115, 32, 99, 108, 111, 115, 101, 100])]))

/-- 'laws.FnExactStepped': WHATEVER THE INPUT: true; the input reads as it did. -/
def fnExactSteppedSpec : ChangeSpec := { name := "fnExactStepped", vars := ["loop.example/g00610/impl.errNotSeen", "loop.example/g00610/impl.errNotRight", "loop.example/g00610/impl.errNotRightThen", "loop.example/g00610/impl.errNoRing", "loop.example/g00610/impl.errNoPlace", "loop.example/g00610/impl.errNoValue", "loop.example/g00610/impl.errClosed"], fn := fun _ => fun
  | [d1, d2, g1, g2, g3, g4, g5, g6, g7] => { results := [.lit (.bool true)], args := [d1, d2], vars := [g1, g2, g3, g4, g5, g6, g7] }
  | _ => none }
def fnExactSteppedRow : OpenClaim := { program := "ythpckpnlohfcbaagreatdoor", sum := "e5e7727c0252a29c11276b03fd446a37b19e22d78fee656e91cc110eeffd412f", func := "loop.example/g00610/laws.FnExactStepped", spec := "fnExactStepped", inPlace := ["internal/reflectlite.TypeOf", "internal/reflectlite.ValueOf", "(internal/reflectlite.Value).Type", "(internal/reflectlite.Value).IsNil", "(internal/reflectlite.Value).Elem", "(internal/reflectlite.Value).Set"], unfollowed := true, recurses := true, named := ["loop.example/g00610/impl.errNotSeen", "loop.example/g00610/impl.errNotRight", "loop.example/g00610/impl.errNotRightThen", "errors.errorType", "loop.example/g00610/impl.errNoRing", "loop.example/g00610/impl.errNoPlace", "loop.example/g00610/impl.errNoValue", "loop.example/g00610/impl.errClosed"], ifaces := true, apart := false, laid := [("errors.errorType", laid_errors_errorType), ("loop.example/g00610/impl.errNotRight", laid_loop_example_g00610_impl_errNotRight), ("loop.example/g00610/impl.errNotRightThen", laid_loop_example_g00610_impl_errNotRightThen), ("loop.example/g00610/impl.errNoRing", laid_loop_example_g00610_impl_errNoRing), ("loop.example/g00610/impl.errNoPlace", laid_loop_example_g00610_impl_errNoPlace), ("loop.example/g00610/impl.errNoValue", laid_loop_example_g00610_impl_errNoValue), ("loop.example/g00610/impl.errNotSeen", laid_loop_example_g00610_impl_errNotSeen), ("loop.example/g00610/impl.errClosed", laid_loop_example_g00610_impl_errClosed)] }
def FnExactSteppedSaid : Prop := fnExactSteppedRow.holds Tryz.pinned (OpenSpec.ofChange fnExactSteppedSpec)

/-- ITS FALSE NEIGHBOUR: 'it returns false'. Refute it at one input. -/
def fnExactSteppedWrong : ChangeSpec := { name := "fnExactStepped", vars := ["loop.example/g00610/impl.errNotSeen", "loop.example/g00610/impl.errNotRight", "loop.example/g00610/impl.errNotRightThen", "loop.example/g00610/impl.errNoRing", "loop.example/g00610/impl.errNoPlace", "loop.example/g00610/impl.errNoValue", "loop.example/g00610/impl.errClosed"], fn := fun _ => fun
  | [d1, d2, g1, g2, g3, g4, g5, g6, g7] => { results := [.lit (.bool false)], args := [d1, d2], vars := [g1, g2, g3, g4, g5, g6, g7] }
  | _ => none }
def FnExactSteppedWrongFalsely : Prop := fnExactSteppedRow.holds Tryz.pinned (OpenSpec.ofChange fnExactSteppedWrong)

/-- 'laws.FnExactAlone': WHATEVER THE INPUT: true; the input reads as it did. -/
def fnExactAloneSpec : ChangeSpec := { name := "fnExactAlone", vars := ["loop.example/g00610/impl.errNotSeen", "loop.example/g00610/impl.errNotRight", "loop.example/g00610/impl.errNotRightThen", "loop.example/g00610/impl.errNoRing", "loop.example/g00610/impl.errNoPlace", "loop.example/g00610/impl.errNoValue", "loop.example/g00610/impl.errClosed"], fn := fun _ => fun
  | [d1, d2, d3, g1, g2, g3, g4, g5, g6, g7] => { results := [.lit (.bool true)], args := [d1, d2, d3], vars := [g1, g2, g3, g4, g5, g6, g7] }
  | _ => none }
def fnExactAloneRow : OpenClaim := { program := "ythpckpnlohfcbaagreatdoor", sum := "e5e7727c0252a29c11276b03fd446a37b19e22d78fee656e91cc110eeffd412f", func := "loop.example/g00610/laws.FnExactAlone", spec := "fnExactAlone", inPlace := ["internal/reflectlite.TypeOf", "internal/reflectlite.ValueOf", "(internal/reflectlite.Value).Type", "(internal/reflectlite.Value).IsNil", "(internal/reflectlite.Value).Elem", "(internal/reflectlite.Value).Set"], unfollowed := true, recurses := true, named := ["loop.example/g00610/impl.errNotSeen", "loop.example/g00610/impl.errNotRight", "loop.example/g00610/impl.errNotRightThen", "errors.errorType", "loop.example/g00610/impl.errNoRing", "loop.example/g00610/impl.errNoPlace", "loop.example/g00610/impl.errNoValue", "loop.example/g00610/impl.errClosed"], ifaces := true, apart := false, laid := [("errors.errorType", laid_errors_errorType), ("loop.example/g00610/impl.errNotRight", laid_loop_example_g00610_impl_errNotRight), ("loop.example/g00610/impl.errNotRightThen", laid_loop_example_g00610_impl_errNotRightThen), ("loop.example/g00610/impl.errNoRing", laid_loop_example_g00610_impl_errNoRing), ("loop.example/g00610/impl.errNoPlace", laid_loop_example_g00610_impl_errNoPlace), ("loop.example/g00610/impl.errNoValue", laid_loop_example_g00610_impl_errNoValue), ("loop.example/g00610/impl.errNotSeen", laid_loop_example_g00610_impl_errNotSeen), ("loop.example/g00610/impl.errClosed", laid_loop_example_g00610_impl_errClosed)] }
def FnExactAloneSaid : Prop := fnExactAloneRow.holds Tryz.pinned (OpenSpec.ofChange fnExactAloneSpec)

/-- ITS FALSE NEIGHBOUR: 'it returns false'. Refute it at one input. -/
def fnExactAloneWrong : ChangeSpec := { name := "fnExactAlone", vars := ["loop.example/g00610/impl.errNotSeen", "loop.example/g00610/impl.errNotRight", "loop.example/g00610/impl.errNotRightThen", "loop.example/g00610/impl.errNoRing", "loop.example/g00610/impl.errNoPlace", "loop.example/g00610/impl.errNoValue", "loop.example/g00610/impl.errClosed"], fn := fun _ => fun
  | [d1, d2, d3, g1, g2, g3, g4, g5, g6, g7] => { results := [.lit (.bool false)], args := [d1, d2, d3], vars := [g1, g2, g3, g4, g5, g6, g7] }
  | _ => none }
def FnExactAloneWrongFalsely : Prop := fnExactAloneRow.holds Tryz.pinned (OpenSpec.ofChange fnExactAloneWrong)

/-- 'laws.FnExactPutAlone': WHATEVER THE INPUT: true; the input reads as it did. -/
def fnExactPutAloneSpec : ChangeSpec := { name := "fnExactPutAlone", vars := ["loop.example/g00610/impl.errNotSeen", "loop.example/g00610/impl.errNotRight", "loop.example/g00610/impl.errNotRightThen", "loop.example/g00610/impl.errNoRing", "loop.example/g00610/impl.errNoPlace", "loop.example/g00610/impl.errNoValue", "loop.example/g00610/impl.errClosed"], fn := fun _ => fun
  | [d1, d2, g1, g2, g3, g4, g5, g6, g7] => { results := [.lit (.bool true)], args := [d1, d2], vars := [g1, g2, g3, g4, g5, g6, g7] }
  | _ => none }
def fnExactPutAloneRow : OpenClaim := { program := "ythpckpnlohfcbaagreatdoor", sum := "e5e7727c0252a29c11276b03fd446a37b19e22d78fee656e91cc110eeffd412f", func := "loop.example/g00610/laws.FnExactPutAlone", spec := "fnExactPutAlone", inPlace := ["internal/reflectlite.TypeOf", "internal/reflectlite.ValueOf", "(internal/reflectlite.Value).Type", "(internal/reflectlite.Value).IsNil", "(internal/reflectlite.Value).Elem", "(internal/reflectlite.Value).Set"], unfollowed := true, recurses := true, named := ["loop.example/g00610/impl.errNotSeen", "loop.example/g00610/impl.errNotRight", "loop.example/g00610/impl.errNotRightThen", "errors.errorType", "loop.example/g00610/impl.errNoRing", "loop.example/g00610/impl.errNoPlace", "loop.example/g00610/impl.errNoValue", "loop.example/g00610/impl.errClosed"], ifaces := true, apart := false, laid := [("errors.errorType", laid_errors_errorType), ("loop.example/g00610/impl.errNotRight", laid_loop_example_g00610_impl_errNotRight), ("loop.example/g00610/impl.errNotRightThen", laid_loop_example_g00610_impl_errNotRightThen), ("loop.example/g00610/impl.errNoRing", laid_loop_example_g00610_impl_errNoRing), ("loop.example/g00610/impl.errNoPlace", laid_loop_example_g00610_impl_errNoPlace), ("loop.example/g00610/impl.errNoValue", laid_loop_example_g00610_impl_errNoValue), ("loop.example/g00610/impl.errNotSeen", laid_loop_example_g00610_impl_errNotSeen), ("loop.example/g00610/impl.errClosed", laid_loop_example_g00610_impl_errClosed)] }
def FnExactPutAloneSaid : Prop := fnExactPutAloneRow.holds Tryz.pinned (OpenSpec.ofChange fnExactPutAloneSpec)

/-- ITS FALSE NEIGHBOUR: 'it returns false'. Refute it at one input. -/
def fnExactPutAloneWrong : ChangeSpec := { name := "fnExactPutAlone", vars := ["loop.example/g00610/impl.errNotSeen", "loop.example/g00610/impl.errNotRight", "loop.example/g00610/impl.errNotRightThen", "loop.example/g00610/impl.errNoRing", "loop.example/g00610/impl.errNoPlace", "loop.example/g00610/impl.errNoValue", "loop.example/g00610/impl.errClosed"], fn := fun _ => fun
  | [d1, d2, g1, g2, g3, g4, g5, g6, g7] => { results := [.lit (.bool false)], args := [d1, d2], vars := [g1, g2, g3, g4, g5, g6, g7] }
  | _ => none }
def FnExactPutAloneWrongFalsely : Prop := fnExactPutAloneRow.holds Tryz.pinned (OpenSpec.ofChange fnExactPutAloneWrong)

/-- 'laws.FnExactTakeAlone': WHATEVER THE INPUT: true; the input reads as it did. -/
def fnExactTakeAloneSpec : ChangeSpec := { name := "fnExactTakeAlone", vars := ["loop.example/g00610/impl.errNotSeen", "loop.example/g00610/impl.errNotRight", "loop.example/g00610/impl.errNotRightThen", "loop.example/g00610/impl.errNoRing", "loop.example/g00610/impl.errNoPlace", "loop.example/g00610/impl.errNoValue", "loop.example/g00610/impl.errClosed"], fn := fun _ => fun
  | [d, g1, g2, g3, g4, g5, g6, g7] => { results := [.lit (.bool true)], args := [d], vars := [g1, g2, g3, g4, g5, g6, g7] }
  | _ => none }
def fnExactTakeAloneRow : OpenClaim := { program := "ythpckpnlohfcbaagreatdoor", sum := "e5e7727c0252a29c11276b03fd446a37b19e22d78fee656e91cc110eeffd412f", func := "loop.example/g00610/laws.FnExactTakeAlone", spec := "fnExactTakeAlone", inPlace := ["internal/reflectlite.TypeOf", "internal/reflectlite.ValueOf", "(internal/reflectlite.Value).Type", "(internal/reflectlite.Value).IsNil", "(internal/reflectlite.Value).Elem", "(internal/reflectlite.Value).Set"], unfollowed := true, recurses := true, named := ["loop.example/g00610/impl.errNotSeen", "loop.example/g00610/impl.errNotRight", "loop.example/g00610/impl.errNotRightThen", "errors.errorType", "loop.example/g00610/impl.errNoRing", "loop.example/g00610/impl.errNoPlace", "loop.example/g00610/impl.errNoValue", "loop.example/g00610/impl.errClosed"], ifaces := true, apart := false, laid := [("errors.errorType", laid_errors_errorType), ("loop.example/g00610/impl.errNotRight", laid_loop_example_g00610_impl_errNotRight), ("loop.example/g00610/impl.errNotRightThen", laid_loop_example_g00610_impl_errNotRightThen), ("loop.example/g00610/impl.errNoRing", laid_loop_example_g00610_impl_errNoRing), ("loop.example/g00610/impl.errNoPlace", laid_loop_example_g00610_impl_errNoPlace), ("loop.example/g00610/impl.errNoValue", laid_loop_example_g00610_impl_errNoValue), ("loop.example/g00610/impl.errNotSeen", laid_loop_example_g00610_impl_errNotSeen), ("loop.example/g00610/impl.errClosed", laid_loop_example_g00610_impl_errClosed)] }
def FnExactTakeAloneSaid : Prop := fnExactTakeAloneRow.holds Tryz.pinned (OpenSpec.ofChange fnExactTakeAloneSpec)

/-- ITS FALSE NEIGHBOUR: 'it returns false'. Refute it at one input. -/
def fnExactTakeAloneWrong : ChangeSpec := { name := "fnExactTakeAlone", vars := ["loop.example/g00610/impl.errNotSeen", "loop.example/g00610/impl.errNotRight", "loop.example/g00610/impl.errNotRightThen", "loop.example/g00610/impl.errNoRing", "loop.example/g00610/impl.errNoPlace", "loop.example/g00610/impl.errNoValue", "loop.example/g00610/impl.errClosed"], fn := fun _ => fun
  | [d, g1, g2, g3, g4, g5, g6, g7] => { results := [.lit (.bool false)], args := [d], vars := [g1, g2, g3, g4, g5, g6, g7] }
  | _ => none }
def FnExactTakeAloneWrongFalsely : Prop := fnExactTakeAloneRow.holds Tryz.pinned (OpenSpec.ofChange fnExactTakeAloneWrong)

/- THE SECOND FORM. 'bulk': how many values and letters a reading holds, each counted each time it is reached (what is shared counts as often as it is met; a slice's spare places count too). A statement '..UptoSaid' is the law's where the arguments, and the package variables that the reading takes, are together of bulk at most 1048576: NARROWER than '..Said'. Prove '..Said' where nothing that the law and all that it calls make is longer than what came in: it says more and counts as full. Else prove '..UptoSaid'. A law counts once. -/
mutual
def uptoBulk {H : Type} : DataW H → Nat
  | .lit (.string bytes) => bytes.length + 1
  | .lit _ => 1
  | .nil => 1
  | .ptr d => uptoBulk d + 1
  | .slice elems spare => uptoBulkAll elems + uptoBulkAll spare + 1
  | .agg parts => uptoBulkAll parts + 1
  | .iface _ d => uptoBulk d + 1
  | .map entries => uptoBulkEntries entries + 1
  | .held _ => 1
def uptoBulkAll {H : Type} : List (DataW H) → Nat
  | [] => 0
  | d :: r => uptoBulk d + uptoBulkAll r
def uptoBulkEntries {H : Type} : List (Lit × DataW H) → Nat
  | [] => 0
  | x :: r => uptoBulkEntry x + uptoBulkEntries r
def uptoBulkEntry {H : Type} : Lit × DataW H → Nat
  | (.string bytes, d) => bytes.length + uptoBulk d + 1
  | (_, d) => uptoBulk d + 1
 end
def uptoSmall : (H : Type) → List (DataW H) → Bool := fun _ ds => decide (uptoBulkAll ds ≤ 1048576)
def OpenSpec.upto (s : _root_.Go.ChangeSpec) : _root_.Go.OpenSpec := { _root_.Go.OpenSpec.ofChange s with cond := some uptoSmall }

/-- 'laws.FnExactStepped', WHERE WHAT IT READS IS OF BULK AT MOST 1048576: true; the input reads as it did. -/
def fnExactSteppedUptoRow : OpenClaim := { program := "ythpckpnlohfcbaagreatdoor", sum := "e5e7727c0252a29c11276b03fd446a37b19e22d78fee656e91cc110eeffd412f", func := "loop.example/g00610/laws.FnExactStepped", spec := "fnExactStepped", inPlace := ["internal/reflectlite.TypeOf", "internal/reflectlite.ValueOf", "(internal/reflectlite.Value).Type", "(internal/reflectlite.Value).IsNil", "(internal/reflectlite.Value).Elem", "(internal/reflectlite.Value).Set"], unfollowed := true, recurses := true, named := ["loop.example/g00610/impl.errNotSeen", "loop.example/g00610/impl.errNotRight", "loop.example/g00610/impl.errNotRightThen", "errors.errorType", "loop.example/g00610/impl.errNoRing", "loop.example/g00610/impl.errNoPlace", "loop.example/g00610/impl.errNoValue", "loop.example/g00610/impl.errClosed"], ifaces := true, apart := false, laid := [("errors.errorType", laid_errors_errorType), ("loop.example/g00610/impl.errNotRight", laid_loop_example_g00610_impl_errNotRight), ("loop.example/g00610/impl.errNotRightThen", laid_loop_example_g00610_impl_errNotRightThen), ("loop.example/g00610/impl.errNoRing", laid_loop_example_g00610_impl_errNoRing), ("loop.example/g00610/impl.errNoPlace", laid_loop_example_g00610_impl_errNoPlace), ("loop.example/g00610/impl.errNoValue", laid_loop_example_g00610_impl_errNoValue), ("loop.example/g00610/impl.errNotSeen", laid_loop_example_g00610_impl_errNotSeen), ("loop.example/g00610/impl.errClosed", laid_loop_example_g00610_impl_errClosed)], narrowed := true }
def FnExactSteppedUptoSaid : Prop := fnExactSteppedUptoRow.holds Tryz.pinned (OpenSpec.upto fnExactSteppedSpec)

/-- 'laws.FnExactAlone', WHERE WHAT IT READS IS OF BULK AT MOST 1048576: true; the input reads as it did. -/
def fnExactAloneUptoRow : OpenClaim := { program := "ythpckpnlohfcbaagreatdoor", sum := "e5e7727c0252a29c11276b03fd446a37b19e22d78fee656e91cc110eeffd412f", func := "loop.example/g00610/laws.FnExactAlone", spec := "fnExactAlone", inPlace := ["internal/reflectlite.TypeOf", "internal/reflectlite.ValueOf", "(internal/reflectlite.Value).Type", "(internal/reflectlite.Value).IsNil", "(internal/reflectlite.Value).Elem", "(internal/reflectlite.Value).Set"], unfollowed := true, recurses := true, named := ["loop.example/g00610/impl.errNotSeen", "loop.example/g00610/impl.errNotRight", "loop.example/g00610/impl.errNotRightThen", "errors.errorType", "loop.example/g00610/impl.errNoRing", "loop.example/g00610/impl.errNoPlace", "loop.example/g00610/impl.errNoValue", "loop.example/g00610/impl.errClosed"], ifaces := true, apart := false, laid := [("errors.errorType", laid_errors_errorType), ("loop.example/g00610/impl.errNotRight", laid_loop_example_g00610_impl_errNotRight), ("loop.example/g00610/impl.errNotRightThen", laid_loop_example_g00610_impl_errNotRightThen), ("loop.example/g00610/impl.errNoRing", laid_loop_example_g00610_impl_errNoRing), ("loop.example/g00610/impl.errNoPlace", laid_loop_example_g00610_impl_errNoPlace), ("loop.example/g00610/impl.errNoValue", laid_loop_example_g00610_impl_errNoValue), ("loop.example/g00610/impl.errNotSeen", laid_loop_example_g00610_impl_errNotSeen), ("loop.example/g00610/impl.errClosed", laid_loop_example_g00610_impl_errClosed)], narrowed := true }
def FnExactAloneUptoSaid : Prop := fnExactAloneUptoRow.holds Tryz.pinned (OpenSpec.upto fnExactAloneSpec)

/-- 'laws.FnExactPutAlone', WHERE WHAT IT READS IS OF BULK AT MOST 1048576: true; the input reads as it did. -/
def fnExactPutAloneUptoRow : OpenClaim := { program := "ythpckpnlohfcbaagreatdoor", sum := "e5e7727c0252a29c11276b03fd446a37b19e22d78fee656e91cc110eeffd412f", func := "loop.example/g00610/laws.FnExactPutAlone", spec := "fnExactPutAlone", inPlace := ["internal/reflectlite.TypeOf", "internal/reflectlite.ValueOf", "(internal/reflectlite.Value).Type", "(internal/reflectlite.Value).IsNil", "(internal/reflectlite.Value).Elem", "(internal/reflectlite.Value).Set"], unfollowed := true, recurses := true, named := ["loop.example/g00610/impl.errNotSeen", "loop.example/g00610/impl.errNotRight", "loop.example/g00610/impl.errNotRightThen", "errors.errorType", "loop.example/g00610/impl.errNoRing", "loop.example/g00610/impl.errNoPlace", "loop.example/g00610/impl.errNoValue", "loop.example/g00610/impl.errClosed"], ifaces := true, apart := false, laid := [("errors.errorType", laid_errors_errorType), ("loop.example/g00610/impl.errNotRight", laid_loop_example_g00610_impl_errNotRight), ("loop.example/g00610/impl.errNotRightThen", laid_loop_example_g00610_impl_errNotRightThen), ("loop.example/g00610/impl.errNoRing", laid_loop_example_g00610_impl_errNoRing), ("loop.example/g00610/impl.errNoPlace", laid_loop_example_g00610_impl_errNoPlace), ("loop.example/g00610/impl.errNoValue", laid_loop_example_g00610_impl_errNoValue), ("loop.example/g00610/impl.errNotSeen", laid_loop_example_g00610_impl_errNotSeen), ("loop.example/g00610/impl.errClosed", laid_loop_example_g00610_impl_errClosed)], narrowed := true }
def FnExactPutAloneUptoSaid : Prop := fnExactPutAloneUptoRow.holds Tryz.pinned (OpenSpec.upto fnExactPutAloneSpec)

/-- 'laws.FnExactTakeAlone', WHERE WHAT IT READS IS OF BULK AT MOST 1048576: true; the input reads as it did. -/
def fnExactTakeAloneUptoRow : OpenClaim := { program := "ythpckpnlohfcbaagreatdoor", sum := "e5e7727c0252a29c11276b03fd446a37b19e22d78fee656e91cc110eeffd412f", func := "loop.example/g00610/laws.FnExactTakeAlone", spec := "fnExactTakeAlone", inPlace := ["internal/reflectlite.TypeOf", "internal/reflectlite.ValueOf", "(internal/reflectlite.Value).Type", "(internal/reflectlite.Value).IsNil", "(internal/reflectlite.Value).Elem", "(internal/reflectlite.Value).Set"], unfollowed := true, recurses := true, named := ["loop.example/g00610/impl.errNotSeen", "loop.example/g00610/impl.errNotRight", "loop.example/g00610/impl.errNotRightThen", "errors.errorType", "loop.example/g00610/impl.errNoRing", "loop.example/g00610/impl.errNoPlace", "loop.example/g00610/impl.errNoValue", "loop.example/g00610/impl.errClosed"], ifaces := true, apart := false, laid := [("errors.errorType", laid_errors_errorType), ("loop.example/g00610/impl.errNotRight", laid_loop_example_g00610_impl_errNotRight), ("loop.example/g00610/impl.errNotRightThen", laid_loop_example_g00610_impl_errNotRightThen), ("loop.example/g00610/impl.errNoRing", laid_loop_example_g00610_impl_errNoRing), ("loop.example/g00610/impl.errNoPlace", laid_loop_example_g00610_impl_errNoPlace), ("loop.example/g00610/impl.errNoValue", laid_loop_example_g00610_impl_errNoValue), ("loop.example/g00610/impl.errNotSeen", laid_loop_example_g00610_impl_errNotSeen), ("loop.example/g00610/impl.errClosed", laid_loop_example_g00610_impl_errClosed)], narrowed := true }
def FnExactTakeAloneUptoSaid : Prop := fnExactTakeAloneUptoRow.holds Tryz.pinned (OpenSpec.upto fnExactTakeAloneSpec)

end Rows
end Go.Proofs.YthpckpnlohfcbaaGreatDoor
