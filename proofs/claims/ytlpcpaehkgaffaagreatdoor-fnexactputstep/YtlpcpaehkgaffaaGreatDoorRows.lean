/-
  NARROWER THAN 'FOR EVERY INPUT', by the rows' own cells (each row's printed sentence says how): FnExactPutStep: ifaces, laid · FnExactTakeStep: ifaces, laid.
  DERIVED. THE GIVEN ROWS OF THIS SEAT. 2 by the template 'for every input the law returns true; each argument reads behind the call as it read before'; 0 by the template 'total and deterministic' (their statements: YtlpcpaehkgaffaaGreatDoorTotals.lean).
  GIVEN WITH THE SEED: the statements are not yours to turn. If you find one false, say at which input.
  Laid BY PROGRAM, IN A SANDBOX (cutbox-rows.mjs): the forced cells as the released guide's own fill.sh prints them over the translation 1c550a741403b18a… (all of the seat's roots in one cut). By AI agents, Wed Nov 11 2026. No macro, syntax, notation, axiom, sorry.
-/
import Derived.Test.YtlpcpaehkgaffaaGreatDoorChecked
import GoSem.Claim
import GoSem.ClaimJoined
import GoSem.ClaimMapViews
import Derived.JoinedTies
import Derived.KernelRfl
namespace Go.Proofs.YtlpcpaehkgaffaaGreatDoor
/- THE CELL 'sum', in the pinned program and in every row, IS THE sha256 OF THE DUMP (.gsa) THAT YtlpcpaehkgaffaaGreatDoorProg.lean LOADS. Nothing in Lean hashes anything: it is a label: what it is worth is what the hold of that sum in a sandbox is worth. -/
noncomputable def Tryz.pinned : Pinned := { name := "ytlpcpaehkgaffaagreatdoor", sum := "1c550a741403b18aa9ae8ba04707a9b6cb0d164a03aef8d7ebf80430b4a075a7", checked := Tryz.checked }
namespace Rows
def none {H : Type} : Left H := { results := [], args := [] }

/- WHAT THE LISTED PACKAGE-LEVEL VARIABLES READ AS WHEN THE CALL BEGINS. Each datum BY PROGRAM (the guide's laid-datum.mjs) off the statement by which the dump's own 'gosem.cut.vars' lays the variable. In a bare row this is a premise. The card (YtlpcpaehkgaffaaGreatDoorCards.lean) ties it to the program's text. -/
def laid_errors_errorType {H : Type} : DataW H := .iface "internal/reflectlite.rtype" (.agg [.ptr (.lit (.string [101, 114, 114, 111, 114]))])
def laid_loop_example_g00610_impl_errNotRight {H : Type} : DataW H := .iface "*errors.errorString" (.ptr (.agg [.lit (.string [116, 104, 101, 32, 115, 116, 111, 114, 101, 32, 105, 115, 32, 110, 111, 116, 32, 114, 105, 103, 104, 116])]))
def laid_loop_example_g00610_impl_errNotRightThen {H : Type} : DataW H := .iface "*errors.errorString" (.ptr (.agg [.lit (.string [116, 104, 101, 32, 115, 116, 111, 114, 101, 32, 119, 111, 117, 108, 100, 32, 110, 111, 116, 32, 98, 101, 32, 114, 105, 103, 104, 116, 32, 116, 104, 101, 110])]))
def laid_loop_example_g00610_impl_errNoRing {H : Type} : DataW H := .iface "*errors.errorString" (.ptr (.agg [.lit (.string [116, 104, 101, 114, 101, 32, 105, 115, 32, 110, 111, 32, 115, 117, 99, 104, 32, 114, 105, 110, 103])]))
def laid_loop_example_g00610_impl_errNoPlace {H : Type} : DataW H := .iface "*errors.errorString" (.ptr (.agg [.lit (.string [116, 104, 101, 114, 101, 32, 105, 115, 32, 110, 111, 32, 115, 117, 99, 104, 32, 112, 108, 97, 99, 101])]))
def laid_loop_example_g00610_impl_errNoValue {H : Type} : DataW H := .iface "*errors.errorString" (.ptr (.agg [.lit (.string [105, 116, 32, 105, 115, 32, 110, 111, 32, 118, 97, 108, 117, 101])]))
def laid_loop_example_g00610_impl_errNotSeen {H : Type} : DataW H := .iface "*errors.errorString" (.ptr (.agg [.lit (.string [105, 116, 32, 105, 115, 32, 110, 111, 116, 32, 119, 104, 97, 116, 32, 119, 97, 115, 32, 115, 101, 101, 110])]))
def laid_loop_example_g00610_impl_errClosed {H : Type} : DataW H := .iface "*errors.errorString" (.ptr (.agg [.lit (.string [116, 104, 101, 32, 114, 105, 110, 103, 32, 105, 115, 32, 99, 108, 111, 115, 101, 100])]))

/-- 'laws.FnExactPutStep': WHATEVER THE INPUT: true; the input reads as it did. -/
def fnExactPutStepSpec : ChangeSpec := { name := "fnExactPutStep", vars := ["loop.example/g00610/impl.errNotSeen", "loop.example/g00610/impl.errNotRight", "loop.example/g00610/impl.errNotRightThen", "loop.example/g00610/impl.errNoRing", "loop.example/g00610/impl.errNoPlace", "loop.example/g00610/impl.errNoValue"], fn := fun _ => fun
  | [d1, d2, g1, g2, g3, g4, g5, g6] => { results := [.lit (.bool true)], args := [d1, d2], vars := [g1, g2, g3, g4, g5, g6] }
  | _ => none }
def fnExactPutStepRow : OpenClaim := { program := "ytlpcpaehkgaffaagreatdoor", sum := "1c550a741403b18aa9ae8ba04707a9b6cb0d164a03aef8d7ebf80430b4a075a7", func := "loop.example/g00610/laws.FnExactPutStep", spec := "fnExactPutStep", inPlace := ["internal/reflectlite.TypeOf", "internal/reflectlite.ValueOf", "(internal/reflectlite.Value).Type", "(internal/reflectlite.Value).IsNil", "(internal/reflectlite.Value).Elem", "(internal/reflectlite.Value).Set"], unfollowed := true, recurses := true, named := ["loop.example/g00610/impl.errNotSeen", "loop.example/g00610/impl.errNotRight", "loop.example/g00610/impl.errNotRightThen", "errors.errorType", "loop.example/g00610/impl.errNoRing", "loop.example/g00610/impl.errNoPlace", "loop.example/g00610/impl.errNoValue"], ifaces := true, apart := false, laid := [("errors.errorType", laid_errors_errorType), ("loop.example/g00610/impl.errNotRight", laid_loop_example_g00610_impl_errNotRight), ("loop.example/g00610/impl.errNotRightThen", laid_loop_example_g00610_impl_errNotRightThen), ("loop.example/g00610/impl.errNoRing", laid_loop_example_g00610_impl_errNoRing), ("loop.example/g00610/impl.errNoPlace", laid_loop_example_g00610_impl_errNoPlace), ("loop.example/g00610/impl.errNoValue", laid_loop_example_g00610_impl_errNoValue), ("loop.example/g00610/impl.errNotSeen", laid_loop_example_g00610_impl_errNotSeen)] }
def FnExactPutStepSaid : Prop := fnExactPutStepRow.holds Tryz.pinned (OpenSpec.ofChange fnExactPutStepSpec)

/-- ITS FALSE NEIGHBOUR: 'it returns false'. Refute it at one input. -/
def fnExactPutStepWrong : ChangeSpec := { name := "fnExactPutStep", vars := ["loop.example/g00610/impl.errNotSeen", "loop.example/g00610/impl.errNotRight", "loop.example/g00610/impl.errNotRightThen", "loop.example/g00610/impl.errNoRing", "loop.example/g00610/impl.errNoPlace", "loop.example/g00610/impl.errNoValue"], fn := fun _ => fun
  | [d1, d2, g1, g2, g3, g4, g5, g6] => { results := [.lit (.bool false)], args := [d1, d2], vars := [g1, g2, g3, g4, g5, g6] }
  | _ => none }
def FnExactPutStepWrongFalsely : Prop := fnExactPutStepRow.holds Tryz.pinned (OpenSpec.ofChange fnExactPutStepWrong)

/-- 'laws.FnExactTakeStep': WHATEVER THE INPUT: true; the input reads as it did. -/
def fnExactTakeStepSpec : ChangeSpec := { name := "fnExactTakeStep", vars := ["loop.example/g00610/impl.errClosed", "loop.example/g00610/impl.errNotSeen", "loop.example/g00610/impl.errNoRing", "loop.example/g00610/impl.errNotRight", "loop.example/g00610/impl.errNotRightThen", "loop.example/g00610/impl.errNoPlace"], fn := fun _ => fun
  | [d1, d2, g1, g2, g3, g4, g5, g6] => { results := [.lit (.bool true)], args := [d1, d2], vars := [g1, g2, g3, g4, g5, g6] }
  | _ => none }
def fnExactTakeStepRow : OpenClaim := { program := "ytlpcpaehkgaffaagreatdoor", sum := "1c550a741403b18aa9ae8ba04707a9b6cb0d164a03aef8d7ebf80430b4a075a7", func := "loop.example/g00610/laws.FnExactTakeStep", spec := "fnExactTakeStep", inPlace := ["internal/reflectlite.TypeOf", "internal/reflectlite.ValueOf", "(internal/reflectlite.Value).Type", "(internal/reflectlite.Value).IsNil", "(internal/reflectlite.Value).Elem", "(internal/reflectlite.Value).Set"], unfollowed := true, recurses := true, named := ["loop.example/g00610/impl.errClosed", "loop.example/g00610/impl.errNotSeen", "loop.example/g00610/impl.errNoRing", "loop.example/g00610/impl.errNotRight", "loop.example/g00610/impl.errNotRightThen", "errors.errorType", "loop.example/g00610/impl.errNoPlace"], ifaces := true, apart := false, laid := [("errors.errorType", laid_errors_errorType), ("loop.example/g00610/impl.errNotRight", laid_loop_example_g00610_impl_errNotRight), ("loop.example/g00610/impl.errNotRightThen", laid_loop_example_g00610_impl_errNotRightThen), ("loop.example/g00610/impl.errNoRing", laid_loop_example_g00610_impl_errNoRing), ("loop.example/g00610/impl.errNoPlace", laid_loop_example_g00610_impl_errNoPlace), ("loop.example/g00610/impl.errNotSeen", laid_loop_example_g00610_impl_errNotSeen), ("loop.example/g00610/impl.errClosed", laid_loop_example_g00610_impl_errClosed)] }
def FnExactTakeStepSaid : Prop := fnExactTakeStepRow.holds Tryz.pinned (OpenSpec.ofChange fnExactTakeStepSpec)

/-- ITS FALSE NEIGHBOUR: 'it returns false'. Refute it at one input. -/
def fnExactTakeStepWrong : ChangeSpec := { name := "fnExactTakeStep", vars := ["loop.example/g00610/impl.errClosed", "loop.example/g00610/impl.errNotSeen", "loop.example/g00610/impl.errNoRing", "loop.example/g00610/impl.errNotRight", "loop.example/g00610/impl.errNotRightThen", "loop.example/g00610/impl.errNoPlace"], fn := fun _ => fun
  | [d1, d2, g1, g2, g3, g4, g5, g6] => { results := [.lit (.bool false)], args := [d1, d2], vars := [g1, g2, g3, g4, g5, g6] }
  | _ => none }
def FnExactTakeStepWrongFalsely : Prop := fnExactTakeStepRow.holds Tryz.pinned (OpenSpec.ofChange fnExactTakeStepWrong)

/- THE SECOND FORM. 'bulk': how many values and letters a reading holds, each counted each time it is reached (what is shared counts as often as it is met; a slice's spare places count too). A statement '..UptoSaid' is the law's where the arguments, and the package variables that the reading takes, are together of bulk at most 1048576: NARROWER than '..Said'. Prove '..Said' where nothing that the law and all that it calls make is longer than what came in: it says more and counts as full. Else prove '..UptoSaid'. A law counts once. -/
mutual
def uptoBulk {H : Type} : DataW H → Nat
  | .lit (.string bytes) => bytes.length + 1
  | .lit _ => 1
  | .nil => 1
  | .ptr d => uptoBulk d + 1
  | .slice elems spare => uptoBulkAll elems + uptoBulkAll spare + 1
  | .agg parts => uptoBulkAll parts + 1
  | .iface _ d => uptoBulk d + 1
  | .map entries => uptoBulkEntries entries + 1
  | .held _ => 1
def uptoBulkAll {H : Type} : List (DataW H) → Nat
  | [] => 0
  | d :: r => uptoBulk d + uptoBulkAll r
def uptoBulkEntries {H : Type} : List (Lit × DataW H) → Nat
  | [] => 0
  | x :: r => uptoBulkEntry x + uptoBulkEntries r
def uptoBulkEntry {H : Type} : Lit × DataW H → Nat
  | (.string bytes, d) => bytes.length + uptoBulk d + 1
  | (_, d) => uptoBulk d + 1
 end
def uptoSmall : (H : Type) → List (DataW H) → Bool := fun _ ds => decide (uptoBulkAll ds ≤ 1048576)
def OpenSpec.upto (s : _root_.Go.ChangeSpec) : _root_.Go.OpenSpec := { _root_.Go.OpenSpec.ofChange s with cond := some uptoSmall }

/-- 'laws.FnExactPutStep', WHERE WHAT IT READS IS OF BULK AT MOST 1048576: true; the input reads as it did. -/
def fnExactPutStepUptoRow : OpenClaim := { program := "ytlpcpaehkgaffaagreatdoor", sum := "1c550a741403b18aa9ae8ba04707a9b6cb0d164a03aef8d7ebf80430b4a075a7", func := "loop.example/g00610/laws.FnExactPutStep", spec := "fnExactPutStep", inPlace := ["internal/reflectlite.TypeOf", "internal/reflectlite.ValueOf", "(internal/reflectlite.Value).Type", "(internal/reflectlite.Value).IsNil", "(internal/reflectlite.Value).Elem", "(internal/reflectlite.Value).Set"], unfollowed := true, recurses := true, named := ["loop.example/g00610/impl.errNotSeen", "loop.example/g00610/impl.errNotRight", "loop.example/g00610/impl.errNotRightThen", "errors.errorType", "loop.example/g00610/impl.errNoRing", "loop.example/g00610/impl.errNoPlace", "loop.example/g00610/impl.errNoValue"], ifaces := true, apart := false, laid := [("errors.errorType", laid_errors_errorType), ("loop.example/g00610/impl.errNotRight", laid_loop_example_g00610_impl_errNotRight), ("loop.example/g00610/impl.errNotRightThen", laid_loop_example_g00610_impl_errNotRightThen), ("loop.example/g00610/impl.errNoRing", laid_loop_example_g00610_impl_errNoRing), ("loop.example/g00610/impl.errNoPlace", laid_loop_example_g00610_impl_errNoPlace), ("loop.example/g00610/impl.errNoValue", laid_loop_example_g00610_impl_errNoValue), ("loop.example/g00610/impl.errNotSeen", laid_loop_example_g00610_impl_errNotSeen)], narrowed := true }
def FnExactPutStepUptoSaid : Prop := fnExactPutStepUptoRow.holds Tryz.pinned (OpenSpec.upto fnExactPutStepSpec)

/-- 'laws.FnExactTakeStep', WHERE WHAT IT READS IS OF BULK AT MOST 1048576: true; the input reads as it did. -/
def fnExactTakeStepUptoRow : OpenClaim := { program := "ytlpcpaehkgaffaagreatdoor", sum := "1c550a741403b18aa9ae8ba04707a9b6cb0d164a03aef8d7ebf80430b4a075a7", func := "loop.example/g00610/laws.FnExactTakeStep", spec := "fnExactTakeStep", inPlace := ["internal/reflectlite.TypeOf", "internal/reflectlite.ValueOf", "(internal/reflectlite.Value).Type", "(internal/reflectlite.Value).IsNil", "(internal/reflectlite.Value).Elem", "(internal/reflectlite.Value).Set"], unfollowed := true, recurses := true, named := ["loop.example/g00610/impl.errClosed", "loop.example/g00610/impl.errNotSeen", "loop.example/g00610/impl.errNoRing", "loop.example/g00610/impl.errNotRight", "loop.example/g00610/impl.errNotRightThen", "errors.errorType", "loop.example/g00610/impl.errNoPlace"], ifaces := true, apart := false, laid := [("errors.errorType", laid_errors_errorType), ("loop.example/g00610/impl.errNotRight", laid_loop_example_g00610_impl_errNotRight), ("loop.example/g00610/impl.errNotRightThen", laid_loop_example_g00610_impl_errNotRightThen), ("loop.example/g00610/impl.errNoRing", laid_loop_example_g00610_impl_errNoRing), ("loop.example/g00610/impl.errNoPlace", laid_loop_example_g00610_impl_errNoPlace), ("loop.example/g00610/impl.errNotSeen", laid_loop_example_g00610_impl_errNotSeen), ("loop.example/g00610/impl.errClosed", laid_loop_example_g00610_impl_errClosed)], narrowed := true }
def FnExactTakeStepUptoSaid : Prop := fnExactTakeStepUptoRow.holds Tryz.pinned (OpenSpec.upto fnExactTakeStepSpec)

end Rows
end Go.Proofs.YtlpcpaehkgaffaaGreatDoor
