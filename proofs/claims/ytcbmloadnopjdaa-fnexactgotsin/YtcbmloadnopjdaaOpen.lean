/-
  What every row of this seat wants of the program.
-/
import Derived.Test.YtcbmloadnopjdaaChecked
import Derived.Test.YtcbmloadnopjdaaRows
import Derived.Test.YtcbmloadnopjdaaKit
namespace Go.Proofs.Ytcbmloadnopjdaa
set_option linter.unusedSimpArgs false
set_option linter.unusedVariables false
open Go.ChangeShapes Go.WideShapes Go.ChangeAt Go.RowKit Go.Joins

theorem own : ownKnob Try.prog.godebug = none := by kernel_rfl
theorem laidOut : laidOutB Try.prog = true := by kernel_rfl

end Go.Proofs.Ytcbmloadnopjdaa
