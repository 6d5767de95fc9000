/-
  What every row of this seat wants of the program.
-/
import Derived.Test.YtnebllfmnandgaaChecked
import Derived.Test.YtnebllfmnandgaaRows
import Derived.Test.YtnebllfmnandgaaKit
namespace Go.Proofs.Ytnebllfmnandgaa
open Go.ChangeShapes Go.WideShapes Go.ChangeAt Go.RowKit Go.Joins

theorem own : ownKnob Try.prog.godebug = none := by kernel_rfl
theorem laidOut : laidOutB Try.prog = true := by kernel_rfl

end Go.Proofs.Ytnebllfmnandgaa
