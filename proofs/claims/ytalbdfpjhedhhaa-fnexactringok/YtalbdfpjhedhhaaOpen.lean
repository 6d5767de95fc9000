/-
  What every row of this seat wants of the program.
-/
import Derived.Test.YtalbdfpjhedhhaaChecked
import Derived.Test.YtalbdfpjhedhhaaRows
import Derived.Test.YtalbdfpjhedhhaaKit
namespace Go.Proofs.Ytalbdfpjhedhhaa
open Go.ChangeShapes Go.WideShapes Go.ChangeAt Go.RowKit Go.Joins

theorem own : ownKnob Try.prog.godebug = none := by kernel_rfl
theorem laidOut : laidOutB Try.prog = true := by kernel_rfl

end Go.Proofs.Ytalbdfpjhedhhaa
