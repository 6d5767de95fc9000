/-
  No cell of these rows narrows 'for every input' (looked for: loops, veiled, ifaces, maps, wideKeys, modest, calm, conditions, laid).
  DERIVED. THE GIVEN ROWS OF THIS SEAT. 4 by the template 'for every input the law returns true; each argument reads behind the call as it read before'; 0 by the template 'total and deterministic' (their statements: YtghgfbncijfocaaTotals.lean).
  GIVEN WITH THE SEED: the statements are not yours to turn. If you find one false, say at which input.
  Laid BY PROGRAM, IN A SANDBOX (cutbox-rows.mjs): the forced cells as the released guide's own fill.sh prints them over the translation 1c37af08669555bf… (all of the seat's roots in one cut). By AI agents, Wed Nov 11 2026. No macro, syntax, notation, axiom, sorry.
-/
import Derived.Test.YtghgfbncijfocaaChecked
import GoSem.Claim
import GoSem.ClaimJoined
import GoSem.ClaimMapViews
import Derived.JoinedTies
import Derived.KernelRfl
namespace Go.Proofs.Ytghgfbncijfocaa
/- THE CELL 'sum', in the pinned program and in every row, IS THE sha256 OF THE DUMP (.gsa) THAT YtghgfbncijfocaaProg.lean LOADS. Nothing in Lean hashes anything: it is a label: what it is worth is what the hold of that sum in a sandbox is worth. -/
noncomputable def Try.pinned : Pinned := { name := "ytghgfbncijfocaa", sum := "1c37af08669555bf80e96f226b533f380770914b867f2499351030053b1df9d8", checked := Try.checked }
namespace Rows
def none {H : Type} : Left H := { results := [], args := [] }

/-- 'laws.FnExactNothingTwice': WHATEVER THE INPUT: true; the input reads as it did. -/
def fnExactNothingTwiceSpec : ChangeSpec := { name := "fnExactNothingTwice", fn := fun _ => fun
  | [d] => { results := [.lit (.bool true)], args := [d] }
  | _ => none }
def fnExactNothingTwiceRow : OpenClaim := { program := "ytghgfbncijfocaa", sum := "1c37af08669555bf80e96f226b533f380770914b867f2499351030053b1df9d8", func := "loop.example/g00610/laws.FnExactNothingTwice", spec := "fnExactNothingTwice", unfollowed := true, recurses := true, apart := false }
def FnExactNothingTwiceSaid : Prop := fnExactNothingTwiceRow.holds Try.pinned (OpenSpec.ofChange fnExactNothingTwiceSpec)

/-- ITS FALSE NEIGHBOUR: 'it returns false'. Refute it at one input. -/
def fnExactNothingTwiceWrong : ChangeSpec := { name := "fnExactNothingTwice", fn := fun _ => fun
  | [d] => { results := [.lit (.bool false)], args := [d] }
  | _ => none }
def FnExactNothingTwiceWrongFalsely : Prop := fnExactNothingTwiceRow.holds Try.pinned (OpenSpec.ofChange fnExactNothingTwiceWrong)

/-- 'laws.FnExactInOrder': WHATEVER THE INPUT: true; the input reads as it did. -/
def fnExactInOrderSpec : ChangeSpec := { name := "fnExactInOrder", fn := fun _ => fun
  | [d] => { results := [.lit (.bool true)], args := [d] }
  | _ => none }
def fnExactInOrderRow : OpenClaim := { program := "ytghgfbncijfocaa", sum := "1c37af08669555bf80e96f226b533f380770914b867f2499351030053b1df9d8", func := "loop.example/g00610/laws.FnExactInOrder", spec := "fnExactInOrder", unfollowed := true, recurses := true, apart := false }
def FnExactInOrderSaid : Prop := fnExactInOrderRow.holds Try.pinned (OpenSpec.ofChange fnExactInOrderSpec)

/-- ITS FALSE NEIGHBOUR: 'it returns false'. Refute it at one input. -/
def fnExactInOrderWrong : ChangeSpec := { name := "fnExactInOrder", fn := fun _ => fun
  | [d] => { results := [.lit (.bool false)], args := [d] }
  | _ => none }
def FnExactInOrderWrongFalsely : Prop := fnExactInOrderRow.holds Try.pinned (OpenSpec.ofChange fnExactInOrderWrong)

/-- 'laws.FnExactEmptyHeld': WHATEVER THE INPUT: true; the input reads as it did. -/
def fnExactEmptyHeldSpec : ChangeSpec := { name := "fnExactEmptyHeld", fn := fun _ => fun
  | [d] => { results := [.lit (.bool true)], args := [d] }
  | _ => none }
def fnExactEmptyHeldRow : OpenClaim := { program := "ytghgfbncijfocaa", sum := "1c37af08669555bf80e96f226b533f380770914b867f2499351030053b1df9d8", func := "loop.example/g00610/laws.FnExactEmptyHeld", spec := "fnExactEmptyHeld", unfollowed := true, recurses := true, apart := false }
def FnExactEmptyHeldSaid : Prop := fnExactEmptyHeldRow.holds Try.pinned (OpenSpec.ofChange fnExactEmptyHeldSpec)

/-- ITS FALSE NEIGHBOUR: 'it returns false'. Refute it at one input. -/
def fnExactEmptyHeldWrong : ChangeSpec := { name := "fnExactEmptyHeld", fn := fun _ => fun
  | [d] => { results := [.lit (.bool false)], args := [d] }
  | _ => none }
def FnExactEmptyHeldWrongFalsely : Prop := fnExactEmptyHeldRow.holds Try.pinned (OpenSpec.ofChange fnExactEmptyHeldWrong)

/-- 'laws.FnExactBusy': WHATEVER THE INPUT: true; the input reads as it did. -/
def fnExactBusySpec : ChangeSpec := { name := "fnExactBusy", fn := fun _ => fun
  | [d] => { results := [.lit (.bool true)], args := [d] }
  | _ => none }
def fnExactBusyRow : OpenClaim := { program := "ytghgfbncijfocaa", sum := "1c37af08669555bf80e96f226b533f380770914b867f2499351030053b1df9d8", func := "loop.example/g00610/laws.FnExactBusy", spec := "fnExactBusy", unfollowed := true, recurses := true, apart := false }
def FnExactBusySaid : Prop := fnExactBusyRow.holds Try.pinned (OpenSpec.ofChange fnExactBusySpec)

/-- ITS FALSE NEIGHBOUR: 'it returns false'. Refute it at one input. -/
def fnExactBusyWrong : ChangeSpec := { name := "fnExactBusy", fn := fun _ => fun
  | [d] => { results := [.lit (.bool false)], args := [d] }
  | _ => none }
def FnExactBusyWrongFalsely : Prop := fnExactBusyRow.holds Try.pinned (OpenSpec.ofChange fnExactBusyWrong)

/- THE SECOND FORM. 'bulk': how many values and letters a reading holds, each counted each time it is reached (what is shared counts as often as it is met; a slice's spare places count too). A statement '..UptoSaid' is the law's where the arguments, and the package variables that the reading takes, are together of bulk at most 1048576: NARROWER than '..Said'. Prove '..Said' where nothing that the law and all that it calls make is longer than what came in: it says more and counts as full. Else prove '..UptoSaid'. A law counts once. -/
mutual
def uptoBulk {H : Type} : DataW H → Nat
  | .lit (.string bytes) => bytes.length + 1
  | .lit _ => 1
  | .nil => 1
  | .ptr d => uptoBulk d + 1
  | .slice elems spare => uptoBulkAll elems + uptoBulkAll spare + 1
  | .agg parts => uptoBulkAll parts + 1
  | .iface _ d => uptoBulk d + 1
  | .map entries => uptoBulkEntries entries + 1
  | .held _ => 1
def uptoBulkAll {H : Type} : List (DataW H) → Nat
  | [] => 0
  | d :: r => uptoBulk d + uptoBulkAll r
def uptoBulkEntries {H : Type} : List (Lit × DataW H) → Nat
  | [] => 0
  | x :: r => uptoBulkEntry x + uptoBulkEntries r
def uptoBulkEntry {H : Type} : Lit × DataW H → Nat
  | (.string bytes, d) => bytes.length + uptoBulk d + 1
  | (_, d) => uptoBulk d + 1
 end
def uptoSmall : (H : Type) → List (DataW H) → Bool := fun _ ds => decide (uptoBulkAll ds ≤ 1048576)
def OpenSpec.upto (s : _root_.Go.ChangeSpec) : _root_.Go.OpenSpec := { _root_.Go.OpenSpec.ofChange s with cond := some uptoSmall }

/-- 'laws.FnExactNothingTwice', WHERE WHAT IT READS IS OF BULK AT MOST 1048576: true; the input reads as it did. -/
def fnExactNothingTwiceUptoRow : OpenClaim := { program := "ytghgfbncijfocaa", sum := "1c37af08669555bf80e96f226b533f380770914b867f2499351030053b1df9d8", func := "loop.example/g00610/laws.FnExactNothingTwice", spec := "fnExactNothingTwice", unfollowed := true, recurses := true, apart := false, narrowed := true }
def FnExactNothingTwiceUptoSaid : Prop := fnExactNothingTwiceUptoRow.holds Try.pinned (OpenSpec.upto fnExactNothingTwiceSpec)

/-- 'laws.FnExactInOrder', WHERE WHAT IT READS IS OF BULK AT MOST 1048576: true; the input reads as it did. -/
def fnExactInOrderUptoRow : OpenClaim := { program := "ytghgfbncijfocaa", sum := "1c37af08669555bf80e96f226b533f380770914b867f2499351030053b1df9d8", func := "loop.example/g00610/laws.FnExactInOrder", spec := "fnExactInOrder", unfollowed := true, recurses := true, apart := false, narrowed := true }
def FnExactInOrderUptoSaid : Prop := fnExactInOrderUptoRow.holds Try.pinned (OpenSpec.upto fnExactInOrderSpec)

/-- 'laws.FnExactEmptyHeld', WHERE WHAT IT READS IS OF BULK AT MOST 1048576: true; the input reads as it did. -/
def fnExactEmptyHeldUptoRow : OpenClaim := { program := "ytghgfbncijfocaa", sum := "1c37af08669555bf80e96f226b533f380770914b867f2499351030053b1df9d8", func := "loop.example/g00610/laws.FnExactEmptyHeld", spec := "fnExactEmptyHeld", unfollowed := true, recurses := true, apart := false, narrowed := true }
def FnExactEmptyHeldUptoSaid : Prop := fnExactEmptyHeldUptoRow.holds Try.pinned (OpenSpec.upto fnExactEmptyHeldSpec)

/-- 'laws.FnExactBusy', WHERE WHAT IT READS IS OF BULK AT MOST 1048576: true; the input reads as it did. -/
def fnExactBusyUptoRow : OpenClaim := { program := "ytghgfbncijfocaa", sum := "1c37af08669555bf80e96f226b533f380770914b867f2499351030053b1df9d8", func := "loop.example/g00610/laws.FnExactBusy", spec := "fnExactBusy", unfollowed := true, recurses := true, apart := false, narrowed := true }
def FnExactBusyUptoSaid : Prop := fnExactBusyUptoRow.holds Try.pinned (OpenSpec.upto fnExactBusySpec)

end Rows
end Go.Proofs.Ytghgfbncijfocaa
