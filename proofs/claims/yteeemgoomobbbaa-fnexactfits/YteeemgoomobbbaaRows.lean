/-
  No cell of these rows narrows 'for every input' (looked for: loops, veiled, ifaces, maps, wideKeys, modest, calm, conditions, laid).
  DERIVED. THE GIVEN ROWS OF THIS SEAT. 4 by the template 'for every input the law returns true; each argument reads behind the call as it read before'; 0 by the template 'total and deterministic' (their statements: YteeemgoomobbbaaTotals.lean).
  GIVEN WITH THE SEED: the statements are not yours to turn. If you find one false, say at which input.
  Laid BY PROGRAM, IN A SANDBOX (cutbox-rows.mjs): the forced cells as the released guide's own fill.sh prints them over the translation 803965d3957d8569… (all of the seat's roots in one cut). By AI agents, Wed Nov 11 2026. No macro, syntax, notation, axiom, sorry.
-/
import Derived.Test.YteeemgoomobbbaaChecked
import GoSem.Claim
import GoSem.ClaimJoined
import GoSem.ClaimMapViews
import Derived.JoinedTies
import Derived.KernelRfl
namespace Go.Proofs.Yteeemgoomobbbaa
/- THE CELL 'sum', in the pinned program and in every row, IS THE sha256 OF THE DUMP (.gsa) THAT YteeemgoomobbbaaProg.lean LOADS. Nothing in Lean hashes anything: it is a label: what it is worth is what the hold of that sum in a sandbox is worth. -/
noncomputable def Try.pinned : Pinned := { name := "yteeemgoomobbbaa", sum := "803965d3957d8569fd79cb431775b20faaded60ac04020fb0d6fd28852369bfa", checked := Try.checked }
namespace Rows
def none {H : Type} : Left H := { results := [], args := [] }

/-- 'laws.FnExactIsResting': WHATEVER THE INPUT: true; the input reads as it did. -/
def fnExactIsRestingSpec : ChangeSpec := { name := "fnExactIsResting", fn := fun _ => fun
  | [d] => { results := [.lit (.bool true)], args := [d] }
  | _ => none }
def fnExactIsRestingRow : OpenClaim := { program := "yteeemgoomobbbaa", sum := "803965d3957d8569fd79cb431775b20faaded60ac04020fb0d6fd28852369bfa", func := "loop.example/g00610/laws.FnExactIsResting", spec := "fnExactIsResting", apart := false }
def FnExactIsRestingSaid : Prop := fnExactIsRestingRow.holds Try.pinned (OpenSpec.ofChange fnExactIsRestingSpec)

/-- ITS FALSE NEIGHBOUR: 'it returns false'. Refute it at one input. -/
def fnExactIsRestingWrong : ChangeSpec := { name := "fnExactIsResting", fn := fun _ => fun
  | [d] => { results := [.lit (.bool false)], args := [d] }
  | _ => none }
def FnExactIsRestingWrongFalsely : Prop := fnExactIsRestingRow.holds Try.pinned (OpenSpec.ofChange fnExactIsRestingWrong)

/-- 'laws.FnExactFits': WHATEVER THE INPUT: true; the input reads as it did. -/
def fnExactFitsSpec : ChangeSpec := { name := "fnExactFits", fn := fun _ => fun
  | [d1, d2] => { results := [.lit (.bool true)], args := [d1, d2] }
  | _ => none }
def fnExactFitsRow : OpenClaim := { program := "yteeemgoomobbbaa", sum := "803965d3957d8569fd79cb431775b20faaded60ac04020fb0d6fd28852369bfa", func := "loop.example/g00610/laws.FnExactFits", spec := "fnExactFits", unfollowed := true, recurses := true, apart := false }
def FnExactFitsSaid : Prop := fnExactFitsRow.holds Try.pinned (OpenSpec.ofChange fnExactFitsSpec)

/-- ITS FALSE NEIGHBOUR: 'it returns false'. Refute it at one input. -/
def fnExactFitsWrong : ChangeSpec := { name := "fnExactFits", fn := fun _ => fun
  | [d1, d2] => { results := [.lit (.bool false)], args := [d1, d2] }
  | _ => none }
def FnExactFitsWrongFalsely : Prop := fnExactFitsRow.holds Try.pinned (OpenSpec.ofChange fnExactFitsWrong)

/-- 'laws.FnExactIsPutting': WHATEVER THE INPUT: true; the input reads as it did. -/
def fnExactIsPuttingSpec : ChangeSpec := { name := "fnExactIsPutting", fn := fun _ => fun
  | [d] => { results := [.lit (.bool true)], args := [d] }
  | _ => none }
def fnExactIsPuttingRow : OpenClaim := { program := "yteeemgoomobbbaa", sum := "803965d3957d8569fd79cb431775b20faaded60ac04020fb0d6fd28852369bfa", func := "loop.example/g00610/laws.FnExactIsPutting", spec := "fnExactIsPutting", apart := false }
def FnExactIsPuttingSaid : Prop := fnExactIsPuttingRow.holds Try.pinned (OpenSpec.ofChange fnExactIsPuttingSpec)

/-- ITS FALSE NEIGHBOUR: 'it returns false'. Refute it at one input. -/
def fnExactIsPuttingWrong : ChangeSpec := { name := "fnExactIsPutting", fn := fun _ => fun
  | [d] => { results := [.lit (.bool false)], args := [d] }
  | _ => none }
def FnExactIsPuttingWrongFalsely : Prop := fnExactIsPuttingRow.holds Try.pinned (OpenSpec.ofChange fnExactIsPuttingWrong)

/-- 'laws.FnHands': WHATEVER THE INPUT: true; the input reads as it did. -/
def fnHandsSpec : ChangeSpec := { name := "fnHands", fn := fun _ => fun
  | [d] => { results := [.lit (.bool true)], args := [d] }
  | _ => none }
def fnHandsRow : OpenClaim := { program := "yteeemgoomobbbaa", sum := "803965d3957d8569fd79cb431775b20faaded60ac04020fb0d6fd28852369bfa", func := "loop.example/g00610/laws.FnHands", spec := "fnHands", apart := false }
def FnHandsSaid : Prop := fnHandsRow.holds Try.pinned (OpenSpec.ofChange fnHandsSpec)

/-- ITS FALSE NEIGHBOUR: 'it returns false'. Refute it at one input. -/
def fnHandsWrong : ChangeSpec := { name := "fnHands", fn := fun _ => fun
  | [d] => { results := [.lit (.bool false)], args := [d] }
  | _ => none }
def FnHandsWrongFalsely : Prop := fnHandsRow.holds Try.pinned (OpenSpec.ofChange fnHandsWrong)

/- THE SECOND FORM. 'bulk': how many values and letters a reading holds, each counted each time it is reached (what is shared counts as often as it is met; a slice's spare places count too). A statement '..UptoSaid' is the law's where the arguments, and the package variables that the reading takes, are together of bulk at most 1048576: NARROWER than '..Said'. Prove '..Said' where nothing that the law and all that it calls make is longer than what came in: it says more and counts as full. Else prove '..UptoSaid'. A law counts once. -/
mutual
def uptoBulk {H : Type} : DataW H → Nat
  | .lit (.string bytes) => bytes.length + 1
  | .lit _ => 1
  | .nil => 1
  | .ptr d => uptoBulk d + 1
  | .slice elems spare => uptoBulkAll elems + uptoBulkAll spare + 1
  | .agg parts => uptoBulkAll parts + 1
  | .iface _ d => uptoBulk d + 1
  | .map entries => uptoBulkEntries entries + 1
  | .held _ => 1
def uptoBulkAll {H : Type} : List (DataW H) → Nat
  | [] => 0
  | d :: r => uptoBulk d + uptoBulkAll r
def uptoBulkEntries {H : Type} : List (Lit × DataW H) → Nat
  | [] => 0
  | x :: r => uptoBulkEntry x + uptoBulkEntries r
def uptoBulkEntry {H : Type} : Lit × DataW H → Nat
  | (.string bytes, d) => bytes.length + uptoBulk d + 1
  | (_, d) => uptoBulk d + 1
 end
def uptoSmall : (H : Type) → List (DataW H) → Bool := fun _ ds => decide (uptoBulkAll ds ≤ 1048576)
def OpenSpec.upto (s : _root_.Go.ChangeSpec) : _root_.Go.OpenSpec := { _root_.Go.OpenSpec.ofChange s with cond := some uptoSmall }

/-- 'laws.FnExactIsResting', WHERE WHAT IT READS IS OF BULK AT MOST 1048576: true; the input reads as it did. -/
def fnExactIsRestingUptoRow : OpenClaim := { program := "yteeemgoomobbbaa", sum := "803965d3957d8569fd79cb431775b20faaded60ac04020fb0d6fd28852369bfa", func := "loop.example/g00610/laws.FnExactIsResting", spec := "fnExactIsResting", apart := false, narrowed := true }
def FnExactIsRestingUptoSaid : Prop := fnExactIsRestingUptoRow.holds Try.pinned (OpenSpec.upto fnExactIsRestingSpec)

/-- 'laws.FnExactFits', WHERE WHAT IT READS IS OF BULK AT MOST 1048576: true; the input reads as it did. -/
def fnExactFitsUptoRow : OpenClaim := { program := "yteeemgoomobbbaa", sum := "803965d3957d8569fd79cb431775b20faaded60ac04020fb0d6fd28852369bfa", func := "loop.example/g00610/laws.FnExactFits", spec := "fnExactFits", unfollowed := true, recurses := true, apart := false, narrowed := true }
def FnExactFitsUptoSaid : Prop := fnExactFitsUptoRow.holds Try.pinned (OpenSpec.upto fnExactFitsSpec)

/-- 'laws.FnExactIsPutting', WHERE WHAT IT READS IS OF BULK AT MOST 1048576: true; the input reads as it did. -/
def fnExactIsPuttingUptoRow : OpenClaim := { program := "yteeemgoomobbbaa", sum := "803965d3957d8569fd79cb431775b20faaded60ac04020fb0d6fd28852369bfa", func := "loop.example/g00610/laws.FnExactIsPutting", spec := "fnExactIsPutting", apart := false, narrowed := true }
def FnExactIsPuttingUptoSaid : Prop := fnExactIsPuttingUptoRow.holds Try.pinned (OpenSpec.upto fnExactIsPuttingSpec)

/-- 'laws.FnHands', WHERE WHAT IT READS IS OF BULK AT MOST 1048576: true; the input reads as it did. -/
def fnHandsUptoRow : OpenClaim := { program := "yteeemgoomobbbaa", sum := "803965d3957d8569fd79cb431775b20faaded60ac04020fb0d6fd28852369bfa", func := "loop.example/g00610/laws.FnHands", spec := "fnHands", apart := false, narrowed := true }
def FnHandsUptoSaid : Prop := fnHandsUptoRow.holds Try.pinned (OpenSpec.upto fnHandsSpec)

end Rows
end Go.Proofs.Yteeemgoomobbbaa
