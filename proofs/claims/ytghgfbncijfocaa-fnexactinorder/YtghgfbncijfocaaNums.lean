/-
 Tests of numbers, of both sides.
-/
import Derived.Test.YtghgfbncijfocaaRows
import Derived.Test.YtghgfbncijfocaaMem
import Derived.OwnWalk
import Derived.Deep.QuietTactic
import Derived.BigQuiet
import Derived.StillTailTactics
namespace Go.Proofs.Ytghgfbncijfocaa
set_option linter.unusedSimpArgs false
set_option linter.unusedVariables false
open Go.RowKit
attribute [local go_sem ↓] Go.wp_at_zero Go.wp_at_succ

def szI (left : Int) (n : Nat) : Int := if (n : Int) ≤ left then left - n else -1

/-- It returns v and nothing else happens. -/
def Quiet1 (v : Value) (w : World) (e : Ending) (w' : World) : Prop := e = .returned v ∧ w = w'

def noB (z : Int) : Bool := decide (0 ≤ z) && decide (z ≤ 1000000)
def valB (z : Int) : Bool := decide (1 ≤ z) && decide (z ≤ 1000000)
def roundB (n : Int) : Bool := decide (2 ≤ n) && decide (n ≤ 8)
def idxB (z : Int) : Bool := decide (0 ≤ z) && decide (z < 16)
def inB (z lo hi : Int) : Bool := decide (lo ≤ z) && decide (z ≤ hi)

set_option maxHeartbeats 400000 in
theorem isValue_any (z : Int) (w : World) : Calls Try.prog 61 #[.int .i64 z] w (Quiet1 (.bool (valB z)) w) := by
 go_enter Try.func61, Try.ntmps61
 go_wp2
 all_goals
  go_ret
  exact ⟨by simp [valB, *] <;> omega, rfl⟩

set_option maxHeartbeats 400000 in
theorem l1In_any (z lo hi : Int) (w : World) : Calls Try.prog 41 #[.int .i64 z, .int .i64 lo, .int .i64 hi] w (Quiet1 (.bool (inB z lo hi)) w) := by
 go_enter Try.func41, Try.ntmps41
 go_wp2
 all_goals
  go_ret
  exact ⟨by simp [inB, *] <;> omega, rfl⟩

set_option maxHeartbeats 400000 in
theorem l1Value_any (z : Int) (w : World) : Calls Try.prog 42 #[.int .i64 z] w (Quiet1 (.bool (valB z)) w) := by
 go_enter Try.func42, Try.ntmps42
 go_wp2_with fail
 refine (l1In_any _ _ _ _).mono ?_
 rintro e w' ⟨rfl, rfl⟩
 go_wp2
 go_ret
 exact ⟨rfl, rfl⟩

end Go.Proofs.Ytghgfbncijfocaa
