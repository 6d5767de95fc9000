/-
 Facts on memory, behind several cells written one behind the other.
-/
import Derived.Test.YthpckpnlohfcbaaGreatDoorPrimL
namespace Go.Proofs.YthpckpnlohfcbaaGreatDoor
set_option linter.unusedSimpArgs false
set_option linter.unusedVariables false
open Go.RowKit
theorem RgsW.sts {lo hi : Nat} {w : World} {A : Option Addr} {n cap : Nat} {L : List Rg} (h : RgsW lo hi w A n cap L) {k : Nat} (hk : k < lo ∨ hi ≤ k) (us : List Value) (o : Nat) : RgsW lo hi (setCells w k o us) A n cap L :=
 h.keep fun j h1 h2 => sets_block (by omega) us o w
end Go.Proofs.YthpckpnlohfcbaaGreatDoor
