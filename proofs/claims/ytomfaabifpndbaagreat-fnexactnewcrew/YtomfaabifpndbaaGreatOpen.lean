/-
  What every row of this seat wants of the program.
-/
import Derived.Test.YtomfaabifpndbaaGreatChecked
import Derived.Test.YtomfaabifpndbaaGreatRows
import Derived.Test.YtomfaabifpndbaaGreatKit
namespace Go.Proofs.YtomfaabifpndbaaGreat
set_option linter.unusedSimpArgs false
set_option linter.unusedVariables false
open Go.ChangeShapes Go.WideShapes Go.ChangeAt Go.RowKit Go.Joins

theorem own : ownKnob Tryz.prog.godebug = none := by kernel_rfl
theorem laidOut : laidOutB Tryz.prog = true := by kernel_rfl

end Go.Proofs.YtomfaabifpndbaaGreat
