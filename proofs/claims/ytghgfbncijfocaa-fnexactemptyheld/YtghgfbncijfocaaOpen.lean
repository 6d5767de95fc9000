/-
 What every row of this seat wants of the program.
-/
import Derived.Test.YtghgfbncijfocaaChecked
import Derived.Test.YtghgfbncijfocaaRows
import Derived.Test.YtghgfbncijfocaaKit
namespace Go.Proofs.Ytghgfbncijfocaa
set_option linter.unusedSimpArgs false
set_option linter.unusedVariables false
open Go.ChangeShapes Go.WideShapes Go.ChangeAt Go.RowKit Go.Joins

theorem own : ownKnob Try.prog.godebug = none := by kernel_rfl
theorem laidOut : laidOutB Try.prog = true := by kernel_rfl

end Go.Proofs.Ytghgfbncijfocaa
