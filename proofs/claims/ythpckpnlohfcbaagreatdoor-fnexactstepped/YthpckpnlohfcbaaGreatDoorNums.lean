/-
 Tests of numbers, of both sides.
-/
import Derived.Test.YthpckpnlohfcbaaGreatDoorRows
import Derived.Test.YthpckpnlohfcbaaGreatDoorMem
import Derived.OwnWalk
import Derived.Deep.QuietTactic
import Derived.BigQuiet
import Derived.StillTailTactics
namespace Go.Proofs.YthpckpnlohfcbaaGreatDoor
set_option linter.unusedSimpArgs false
set_option linter.unusedVariables false
open Go.RowKit
attribute [local go_sem ↓] Go.wp_at_zero Go.wp_at_succ
def szI (left : Int) (n : Nat) : Int := if (n : Int) ≤ left then left - n else -1
def Quiet1 (v : Value) (w : World) (e : Ending) (w' : World) : Prop := e = .returned v ∧ w = w'
def noB (z : Int) : Bool := decide (0 ≤ z) && decide (z ≤ 1000000)
def valB (z : Int) : Bool := decide (1 ≤ z) && decide (z ≤ 1000000)
def roundB (n : Int) : Bool := decide (2 ≤ n) && decide (n ≤ 8)
def idxB (z : Int) : Bool := decide (0 ≤ z) && decide (z < 16)
def inB (z lo hi : Int) : Bool := decide (lo ≤ z) && decide (z ≤ hi)
set_option maxHeartbeats 400000 in
theorem isNo_any (z : Int) (w : World) : Calls Tryz.prog 101 #[z] w (Quiet1 (.bool (noB z)) w) := by
 go_enter Tryz.func101, Tryz.ntmps101
 go_wp2
 all_goals
  go_ret
  exact ⟨by simp [noB, *] <;> omega, rfl⟩
set_option maxHeartbeats 400000 in
theorem isValue_any (z : Int) (w : World) : Calls Tryz.prog 112 #[z] w (Quiet1 (.bool (valB z)) w) := by
 go_enter Tryz.func112, Tryz.ntmps112
 go_wp2
 all_goals
  go_ret
  exact ⟨by simp [valB, *] <;> omega, rfl⟩
set_option maxHeartbeats 400000 in
theorem isRound_any (z : Int) (w : World) : Calls Tryz.prog 108 #[z] w (Quiet1 (.bool (roundB z)) w) := by
 go_enter Tryz.func108, Tryz.ntmps108
 go_wp2
 all_goals
  go_ret
  exact ⟨by simp [roundB, *] <;> omega, rfl⟩
set_option maxHeartbeats 400000 in
theorem isRingIndex_any (z : Int) (w : World) : Calls Tryz.prog 100 #[z] w (Quiet1 (.bool (idxB z)) w) := by
 go_enter Tryz.func100, Tryz.ntmps100
 go_wp2
 all_goals
  go_ret
  exact ⟨by simp [idxB, *] <;> omega, rfl⟩
set_option maxHeartbeats 400000 in
theorem l1In_any (z lo hi : Int) (w : World) : Calls Tryz.prog 34 #[z, lo, hi] w (Quiet1 (.bool (inB z lo hi)) w) := by
 go_enter Tryz.func34, Tryz.ntmps34
 go_wp2
 all_goals
  go_ret
  exact ⟨by simp [inB, *] <;> omega, rfl⟩
set_option maxHeartbeats 400000 in
theorem l1No_any (z : Int) (w : World) : Calls Tryz.prog 68 #[z] w (Quiet1 (.bool (noB z)) w) := by
 go_enter Tryz.func68, Tryz.ntmps68
 go_wp2_with fail
 refine (l1In_any _ _ _ _).mono ?_
 rintro e w' ⟨rfl, rfl⟩
 go_wp2
 go_ret
 exact ⟨rfl, rfl⟩
set_option maxHeartbeats 400000 in
theorem l1Value_any (z : Int) (w : World) : Calls Tryz.prog 65 #[z] w (Quiet1 (.bool (valB z)) w) := by
 go_enter Tryz.func65, Tryz.ntmps65
 go_wp2_with fail
 refine (l1In_any _ _ _ _).mono ?_
 rintro e w' ⟨rfl, rfl⟩
 go_wp2
 go_ret
 exact ⟨rfl, rfl⟩
end Go.Proofs.YthpckpnlohfcbaaGreatDoor
