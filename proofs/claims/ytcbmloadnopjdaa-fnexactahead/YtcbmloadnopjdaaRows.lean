/-
  No cell of these rows narrows 'for every input' (looked for: loops, veiled, ifaces, maps, wideKeys, modest, calm, conditions, laid).
  DERIVED. THE GIVEN ROWS OF THIS SEAT. 4 by the template 'for every input the law returns true; each argument reads behind the call as it read before'; 0 by the template 'total and deterministic' (their statements: YtcbmloadnopjdaaTotals.lean).
  GIVEN WITH THE SEED: the statements are not yours to turn. If you find one false, say at which input.
  Laid BY PROGRAM, IN A SANDBOX (cutbox-rows.mjs): the forced cells as the released guide's own fill.sh prints them over the translation 2a50fbd74ac8e6dc… (all of the seat's roots in one cut). By AI agents, Wed Nov 11 2026. No macro, syntax, notation, axiom, sorry.
-/
import Derived.Test.YtcbmloadnopjdaaChecked
import GoSem.Claim
import GoSem.ClaimJoined
import GoSem.ClaimMapViews
import Derived.JoinedTies
import Derived.KernelRfl
namespace Go.Proofs.Ytcbmloadnopjdaa
/- THE CELL 'sum', in the pinned program and in every row, IS THE sha256 OF THE DUMP (.gsa) THAT YtcbmloadnopjdaaProg.lean LOADS. Nothing in Lean hashes anything: it is a label: what it is worth is what the hold of that sum in a sandbox is worth. -/
noncomputable def Try.pinned : Pinned := { name := "ytcbmloadnopjdaa", sum := "2a50fbd74ac8e6dc1c9a7ba2cf3b3d9be20e96385526acd96a718f188d233309", checked := Try.checked }
namespace Rows
def none {H : Type} : Left H := { results := [], args := [] }

/-- 'laws.FnExactStoryOk': WHATEVER THE INPUT: true; the input reads as it did. -/
def fnExactStoryOkSpec : ChangeSpec := { name := "fnExactStoryOk", fn := fun _ => fun
  | [d] => { results := [.lit (.bool true)], args := [d] }
  | _ => none }
def fnExactStoryOkRow : OpenClaim := { program := "ytcbmloadnopjdaa", sum := "2a50fbd74ac8e6dc1c9a7ba2cf3b3d9be20e96385526acd96a718f188d233309", func := "loop.example/g00610/laws.FnExactStoryOk", spec := "fnExactStoryOk", unfollowed := true, recurses := true, apart := false }
def FnExactStoryOkSaid : Prop := fnExactStoryOkRow.holds Try.pinned (OpenSpec.ofChange fnExactStoryOkSpec)

/-- ITS FALSE NEIGHBOUR: 'it returns false'. Refute it at one input. -/
def fnExactStoryOkWrong : ChangeSpec := { name := "fnExactStoryOk", fn := fun _ => fun
  | [d] => { results := [.lit (.bool false)], args := [d] }
  | _ => none }
def FnExactStoryOkWrongFalsely : Prop := fnExactStoryOkRow.holds Try.pinned (OpenSpec.ofChange fnExactStoryOkWrong)

/-- 'laws.FnExactAhead': WHATEVER THE INPUT: true; the input reads as it did. -/
def fnExactAheadSpec : ChangeSpec := { name := "fnExactAhead", fn := fun _ => fun
  | [d1, d2] => { results := [.lit (.bool true)], args := [d1, d2] }
  | _ => none }
def fnExactAheadRow : OpenClaim := { program := "ytcbmloadnopjdaa", sum := "2a50fbd74ac8e6dc1c9a7ba2cf3b3d9be20e96385526acd96a718f188d233309", func := "loop.example/g00610/laws.FnExactAhead", spec := "fnExactAhead", apart := false }
def FnExactAheadSaid : Prop := fnExactAheadRow.holds Try.pinned (OpenSpec.ofChange fnExactAheadSpec)

/-- ITS FALSE NEIGHBOUR: 'it returns false'. Refute it at one input. -/
def fnExactAheadWrong : ChangeSpec := { name := "fnExactAhead", fn := fun _ => fun
  | [d1, d2] => { results := [.lit (.bool false)], args := [d1, d2] }
  | _ => none }
def FnExactAheadWrongFalsely : Prop := fnExactAheadRow.holds Try.pinned (OpenSpec.ofChange fnExactAheadWrong)

/-- 'laws.FnExactPutsIn': WHATEVER THE INPUT: true; the input reads as it did. -/
def fnExactPutsInSpec : ChangeSpec := { name := "fnExactPutsIn", fn := fun _ => fun
  | [d] => { results := [.lit (.bool true)], args := [d] }
  | _ => none }
def fnExactPutsInRow : OpenClaim := { program := "ytcbmloadnopjdaa", sum := "2a50fbd74ac8e6dc1c9a7ba2cf3b3d9be20e96385526acd96a718f188d233309", func := "loop.example/g00610/laws.FnExactPutsIn", spec := "fnExactPutsIn", unfollowed := true, recurses := true, apart := false }
def FnExactPutsInSaid : Prop := fnExactPutsInRow.holds Try.pinned (OpenSpec.ofChange fnExactPutsInSpec)

/-- ITS FALSE NEIGHBOUR: 'it returns false'. Refute it at one input. -/
def fnExactPutsInWrong : ChangeSpec := { name := "fnExactPutsIn", fn := fun _ => fun
  | [d] => { results := [.lit (.bool false)], args := [d] }
  | _ => none }
def FnExactPutsInWrongFalsely : Prop := fnExactPutsInRow.holds Try.pinned (OpenSpec.ofChange fnExactPutsInWrong)

/-- 'laws.FnExactGotsIn': WHATEVER THE INPUT: true; the input reads as it did. -/
def fnExactGotsInSpec : ChangeSpec := { name := "fnExactGotsIn", fn := fun _ => fun
  | [d] => { results := [.lit (.bool true)], args := [d] }
  | _ => none }
def fnExactGotsInRow : OpenClaim := { program := "ytcbmloadnopjdaa", sum := "2a50fbd74ac8e6dc1c9a7ba2cf3b3d9be20e96385526acd96a718f188d233309", func := "loop.example/g00610/laws.FnExactGotsIn", spec := "fnExactGotsIn", unfollowed := true, recurses := true, apart := false }
def FnExactGotsInSaid : Prop := fnExactGotsInRow.holds Try.pinned (OpenSpec.ofChange fnExactGotsInSpec)

/-- ITS FALSE NEIGHBOUR: 'it returns false'. Refute it at one input. -/
def fnExactGotsInWrong : ChangeSpec := { name := "fnExactGotsIn", fn := fun _ => fun
  | [d] => { results := [.lit (.bool false)], args := [d] }
  | _ => none }
def FnExactGotsInWrongFalsely : Prop := fnExactGotsInRow.holds Try.pinned (OpenSpec.ofChange fnExactGotsInWrong)

/- THE SECOND FORM. 'bulk': how many values and letters a reading holds, each counted each time it is reached (what is shared counts as often as it is met; a slice's spare places count too). A statement '..UptoSaid' is the law's where the arguments, and the package variables that the reading takes, are together of bulk at most 1048576: NARROWER than '..Said'. Prove '..Said' where nothing that the law and all that it calls make is longer than what came in: it says more and counts as full. Else prove '..UptoSaid'. A law counts once. -/
mutual
def uptoBulk {H : Type} : DataW H → Nat
  | .lit (.string bytes) => bytes.length + 1
  | .lit _ => 1
  | .nil => 1
  | .ptr d => uptoBulk d + 1
  | .slice elems spare => uptoBulkAll elems + uptoBulkAll spare + 1
  | .agg parts => uptoBulkAll parts + 1
  | .iface _ d => uptoBulk d + 1
  | .map entries => uptoBulkEntries entries + 1
  | .held _ => 1
def uptoBulkAll {H : Type} : List (DataW H) → Nat
  | [] => 0
  | d :: r => uptoBulk d + uptoBulkAll r
def uptoBulkEntries {H : Type} : List (Lit × DataW H) → Nat
  | [] => 0
  | x :: r => uptoBulkEntry x + uptoBulkEntries r
def uptoBulkEntry {H : Type} : Lit × DataW H → Nat
  | (.string bytes, d) => bytes.length + uptoBulk d + 1
  | (_, d) => uptoBulk d + 1
 end
def uptoSmall : (H : Type) → List (DataW H) → Bool := fun _ ds => decide (uptoBulkAll ds ≤ 1048576)
def OpenSpec.upto (s : _root_.Go.ChangeSpec) : _root_.Go.OpenSpec := { _root_.Go.OpenSpec.ofChange s with cond := some uptoSmall }

/-- 'laws.FnExactStoryOk', WHERE WHAT IT READS IS OF BULK AT MOST 1048576: true; the input reads as it did. -/
def fnExactStoryOkUptoRow : OpenClaim := { program := "ytcbmloadnopjdaa", sum := "2a50fbd74ac8e6dc1c9a7ba2cf3b3d9be20e96385526acd96a718f188d233309", func := "loop.example/g00610/laws.FnExactStoryOk", spec := "fnExactStoryOk", unfollowed := true, recurses := true, apart := false, narrowed := true }
def FnExactStoryOkUptoSaid : Prop := fnExactStoryOkUptoRow.holds Try.pinned (OpenSpec.upto fnExactStoryOkSpec)

/-- 'laws.FnExactAhead', WHERE WHAT IT READS IS OF BULK AT MOST 1048576: true; the input reads as it did. -/
def fnExactAheadUptoRow : OpenClaim := { program := "ytcbmloadnopjdaa", sum := "2a50fbd74ac8e6dc1c9a7ba2cf3b3d9be20e96385526acd96a718f188d233309", func := "loop.example/g00610/laws.FnExactAhead", spec := "fnExactAhead", apart := false, narrowed := true }
def FnExactAheadUptoSaid : Prop := fnExactAheadUptoRow.holds Try.pinned (OpenSpec.upto fnExactAheadSpec)

/-- 'laws.FnExactPutsIn', WHERE WHAT IT READS IS OF BULK AT MOST 1048576: true; the input reads as it did. -/
def fnExactPutsInUptoRow : OpenClaim := { program := "ytcbmloadnopjdaa", sum := "2a50fbd74ac8e6dc1c9a7ba2cf3b3d9be20e96385526acd96a718f188d233309", func := "loop.example/g00610/laws.FnExactPutsIn", spec := "fnExactPutsIn", unfollowed := true, recurses := true, apart := false, narrowed := true }
def FnExactPutsInUptoSaid : Prop := fnExactPutsInUptoRow.holds Try.pinned (OpenSpec.upto fnExactPutsInSpec)

/-- 'laws.FnExactGotsIn', WHERE WHAT IT READS IS OF BULK AT MOST 1048576: true; the input reads as it did. -/
def fnExactGotsInUptoRow : OpenClaim := { program := "ytcbmloadnopjdaa", sum := "2a50fbd74ac8e6dc1c9a7ba2cf3b3d9be20e96385526acd96a718f188d233309", func := "loop.example/g00610/laws.FnExactGotsIn", spec := "fnExactGotsIn", unfollowed := true, recurses := true, apart := false, narrowed := true }
def FnExactGotsInUptoSaid : Prop := fnExactGotsInUptoRow.holds Try.pinned (OpenSpec.upto fnExactGotsInSpec)

end Rows
end Go.Proofs.Ytcbmloadnopjdaa
