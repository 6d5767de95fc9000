/-
  What every row of this seat wants of the program.
-/
import Derived.Test.YtbpjhdoldodlnaaDoorChecked
import Derived.Test.YtbpjhdoldodlnaaDoorRows
import Derived.Test.YtbpjhdoldodlnaaDoorKit
namespace Go.Proofs.YtbpjhdoldodlnaaDoor
open Go.ChangeShapes Go.WideShapes Go.ChangeAt Go.RowKit Go.Joins

theorem own : ownKnob Tryd.prog.godebug = none := by kernel_rfl
theorem laidOut : laidOutB Tryd.prog = true := by kernel_rfl

end Go.Proofs.YtbpjhdoldodlnaaDoor
