/-
  The walks of NewRing, of both sides, and of the laws' helpers on rings.
-/
import Derived.Test.YtidacajbdjicjaaRingA
import Derived.OwnWalk
namespace Go.Proofs.Ytidacajbdjicjaa
set_option linter.unusedSimpArgs false
set_option linter.unusedVariables false
open Go.RowKit
attribute [local go_sem ↓] Go.wp_at_zero Go.wp_at_succ

/-- It returns v and nothing else happens. -/
def Quiet1 (v : Value) (w : World) (e : Ending) (w' : World) : Prop := e = .returned v ∧ w = w'

def noB (z : Int) : Bool := decide (0 ≤ z) && decide (z ≤ 1000000)
def valB (z : Int) : Bool := decide (1 ≤ z) && decide (z ≤ 1000000)
def roundB (n : Int) : Bool := decide (2 ≤ n) && decide (n ≤ 8)
def idxB (z : Int) : Bool := decide (0 ≤ z) && decide (z < 16)
def inB (z lo hi : Int) : Bool := decide (lo ≤ z) && decide (z ≤ hi)

set_option maxHeartbeats 400000 in
theorem isNo_any (z : Int) (w : World) : Calls Try.prog 27 #[.int .i64 z] w (Quiet1 (.bool (noB z)) w) := by
  go_enter Try.func27, Try.ntmps27
  go_wp2
  all_goals
    go_ret
    exact ⟨by simp [noB, *] <;> omega, rfl⟩

set_option maxHeartbeats 400000 in
theorem isValue_any (z : Int) (w : World) : Calls Try.prog 35 #[.int .i64 z] w (Quiet1 (.bool (valB z)) w) := by
  go_enter Try.func35, Try.ntmps35
  go_wp2
  all_goals
    go_ret
    exact ⟨by simp [valB, *] <;> omega, rfl⟩

set_option maxHeartbeats 400000 in
theorem isRingIndex_any (z : Int) (w : World) : Calls Try.prog 26 #[.int .i64 z] w (Quiet1 (.bool (idxB z)) w) := by
  go_enter Try.func26, Try.ntmps26
  go_wp2
  all_goals
    go_ret
    exact ⟨by simp [idxB, *] <;> omega, rfl⟩

set_option maxHeartbeats 400000 in
theorem l1In_any (z lo hi : Int) (w : World) : Calls Try.prog 20 #[.int .i64 z, .int .i64 lo, .int .i64 hi] w (Quiet1 (.bool (inB z lo hi)) w) := by
  go_enter Try.func20, Try.ntmps20
  go_wp2
  all_goals
    go_ret
    exact ⟨by simp [inB, *] <;> omega, rfl⟩

set_option maxHeartbeats 400000 in
theorem l1No_any (z : Int) (w : World) : Calls Try.prog 21 #[.int .i64 z] w (Quiet1 (.bool (noB z)) w) := by
  go_enter Try.func21, Try.ntmps21
  go_wp2_with fail
  refine (l1In_any _ _ _ _).mono ?_
  rintro e w' ⟨rfl, rfl⟩
  go_wp2
  go_ret
  exact ⟨rfl, rfl⟩

set_option maxHeartbeats 400000 in
theorem l1Value_any (z : Int) (w : World) : Calls Try.prog 32 #[.int .i64 z] w (Quiet1 (.bool (valB z)) w) := by
  go_enter Try.func32, Try.ntmps32
  go_wp2_with fail
  refine (l1In_any _ _ _ _).mono ?_
  rintro e w' ⟨rfl, rfl⟩
  go_wp2
  go_ret
  exact ⟨rfl, rfl⟩

/-- A ring's value. -/
def rgV (h t : Int) (c : Bool) (x : Int) (A : Option Addr) (n cap : Nat) : Value := .agg #[.int .i64 h, .int .i64 t, .bool c, .int .i64 x, .slice A n cap]

/-- A ring of the call's own is returned. -/
def RetRg (h t : Int) (c : Bool) (x : Int) (n : Nat) (l : List Pl) (w : World) (e : Ending) (w' : World) : Prop :=
  ∃ g cap, e = .returned (rgV h t c x (some ⟨g, 0, none⟩) n cap) ∧ PlsO w.heap.size w' g n cap l ∧ Below w.heap.size w w'
/-- Likewise, and a bool. -/
def RetRgB (h t : Int) (c : Bool) (x : Int) (n : Nat) (l : List Pl) (b : Bool) (w : World) (e : Ending) (w' : World) : Prop :=
  ∃ g cap, e = .returned (.tuple #[rgV h t c x (some ⟨g, 0, none⟩) n cap, .bool b]) ∧ PlsO w.heap.size w' g n cap l ∧ Below w.heap.size w w'

/-- What markRing does. -/
def MarkedR (N g n cap : Nat) (w : World) (e : Ending) (w' : World) : Prop :=
  e = .returned (.int .i64 (1 + 4 * n)) ∧ But g w w' ∧ PlsO N w' g n cap (marks 1 n)

/-- n places that nobody has put on. -/
def fresh (n : Nat) : List Pl := (List.range n).map fun (i : Nat) => ⟨true, (i : Int), false, 0⟩
theorem fresh_len (n : Nat) : (fresh n).length = n := by simp [fresh]
theorem fresh_at {n i : Nat} (h : i < n) : (fresh n)[i]? = some ⟨true, (i : Int), false, 0⟩ := by simp [fresh, h]

/-- No ring, and false. -/
def NoRg (w : World) (e : Ending) (w' : World) : Prop := e = .returned (.tuple #[rgV 0 0 false 0 none 0 0, .bool false]) ∧ Below w.heap.size w w'

end Go.Proofs.Ytidacajbdjicjaa
