/-
  What every row of this seat wants of the program.
-/
import Derived.Test.YtomfaabifpndbaaChecked
import Derived.Test.YtomfaabifpndbaaRows
import Derived.Test.YtomfaabifpndbaaKit
namespace Go.Proofs.Ytomfaabifpndbaa
set_option linter.unusedSimpArgs false
set_option linter.unusedVariables false
open Go.ChangeShapes Go.WideShapes Go.ChangeAt Go.RowKit Go.Joins

theorem own : ownKnob Try.prog.godebug = none := by kernel_rfl
theorem laidOut : laidOutB Try.prog = true := by kernel_rfl

end Go.Proofs.Ytomfaabifpndbaa
