/-
 Tests of numbers, of both sides.
-/
import Derived.Test.YtplgabogdeeohaaGreatRows
import Derived.Test.YtplgabogdeeohaaGreatMem
import Derived.OwnWalk
import Derived.Deep.QuietTactic
import Derived.BigQuiet
import Derived.StillTailTactics
namespace Go.Proofs.YtplgabogdeeohaaGreat
set_option linter.unusedSimpArgs false
set_option linter.unusedVariables false
open Go.RowKit
attribute [local go_sem ↓] Go.wp_at_zero Go.wp_at_succ

def szI (left : Int) (n : Nat) : Int := if (n : Int) ≤ left then left - n else -1

/-- It returns v and nothing else happens. -/
def Quiet1 (v : Value) (w : World) (e : Ending) (w' : World) : Prop := e = .returned v ∧ w = w'

def noB (z : Int) : Bool := decide (0 ≤ z) && decide (z ≤ 1000000)
def valB (z : Int) : Bool := decide (1 ≤ z) && decide (z ≤ 1000000)
def roundB (n : Int) : Bool := decide (2 ≤ n) && decide (n ≤ 8)
def idxB (z : Int) : Bool := decide (0 ≤ z) && decide (z < 16)
def inB (z lo hi : Int) : Bool := decide (lo ≤ z) && decide (z ≤ hi)

set_option maxHeartbeats 400000 in
theorem isValue_any (z : Int) (w : World) : Calls Tryz.prog 88 #[z] w (Quiet1 (.bool (valB z)) w) := by
 go_enter Tryz.func88, Tryz.ntmps88
 go_wp2
 all_goals
  go_ret
  exact ⟨by simp [valB, *] <;> omega, rfl⟩

set_option maxHeartbeats 400000 in
theorem l1In_any (z lo hi : Int) (w : World) : Calls Tryz.prog 28 #[z, lo, hi] w (Quiet1 (.bool (inB z lo hi)) w) := by
 go_enter Tryz.func28, Tryz.ntmps28
 go_wp2
 all_goals
  go_ret
  exact ⟨by simp [inB, *] <;> omega, rfl⟩

set_option maxHeartbeats 400000 in
theorem l1No_any (z : Int) (w : World) : Calls Tryz.prog 89 #[z] w (Quiet1 (.bool (noB z)) w) := by
 go_enter Tryz.func89, Tryz.ntmps89
 go_wp2_with fail
 refine (l1In_any _ _ _ _).mono ?_
 rintro e w' ⟨rfl, rfl⟩
 go_wp2
 go_ret
 exact ⟨rfl, rfl⟩

set_option maxHeartbeats 400000 in
theorem l1Value_any (z : Int) (w : World) : Calls Tryz.prog 29 #[z] w (Quiet1 (.bool (valB z)) w) := by
 go_enter Tryz.func29, Tryz.ntmps29
 go_wp2_with fail
 refine (l1In_any _ _ _ _).mono ?_
 rintro e w' ⟨rfl, rfl⟩
 go_wp2
 go_ret
 exact ⟨rfl, rfl⟩

end Go.Proofs.YtplgabogdeeohaaGreat
