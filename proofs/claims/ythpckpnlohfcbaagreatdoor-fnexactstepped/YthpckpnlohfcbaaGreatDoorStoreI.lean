/-
 The walk of NewStore of the model.
-/
import Derived.Test.YthpckpnlohfcbaaGreatDoorPrimL
import Derived.Test.YthpckpnlohfcbaaGreatDoorLawC
namespace Go.Proofs.YthpckpnlohfcbaaGreatDoor
set_option linter.unusedSimpArgs false
set_option linter.unusedVariables false
open Go.RowKit
set_option linter.unusedVariables false
attribute [local go_sem ↓] Go.wp_at_zero Go.wp_at_succ
end Go.Proofs.YthpckpnlohfcbaaGreatDoor
namespace Go.Proofs.YthpckpnlohfcbaaGreatDoor
set_option linter.unusedSimpArgs false
set_option linter.unusedVariables false
open Go.RowKit
set_option linter.unusedVariables false
attribute [local go_sem ↓] Go.wp_at_zero Go.wp_at_succ
set_option maxHeartbeats 400000 in
theorem isMost_any (z : Int) (w : World) : Calls Tryz.prog 109 #[z] w (Quiet1 (.bool (inB z 1 16)) w) := by
 go_enter Tryz.func109, Tryz.ntmps109
 go_wp2
 all_goals
  go_ret
  exact ⟨by simp [inB, *] <;> omega, rfl⟩
end Go.Proofs.YthpckpnlohfcbaaGreatDoor
