/-
  The walks of valuesOn of the program, and of what it calls.
-/
import Derived.Test.YtnebllfmnandgaaSortA
import Derived.Test.YtnebllfmnandgaaIterF
import Derived.Test.YtnebllfmnandgaaStoreC
namespace Go.Proofs.Ytnebllfmnandgaa
open Go.RowKit
set_option linter.unusedVariables false
attribute [local go_sem ↓] Go.wp_at_zero Go.wp_at_succ

/-- A number is returned, and nothing else happens. -/
def SomeInt (w : World) (e : Ending) (w' : World) : Prop := (∃ z : Int, e = .returned (.int .i64 z)) ∧ w = w'

set_option maxRecDepth 100000 in
set_option maxHeartbeats 4000000 in
theorem len64_any (n : Nat) (w : World) (h : n ≤ 8) : Calls Try.prog 110 #[.int .u64 n] w (SomeInt w) := by
  have hc : n = 0 ∨ n = 1 ∨ n = 2 ∨ n = 3 ∨ n = 4 ∨ n = 5 ∨ n = 6 ∨ n = 7 ∨ n = 8 := by omega
  rcases hc with rfl | rfl | rfl | rfl | rfl | rfl | rfl | rfl | rfl
  all_goals
    go_enter Try.func110, Try.ntmps110
    go_wp2
    go_ret
    exact ⟨⟨_, rfl⟩, rfl⟩

set_option maxHeartbeats 1000000 in
theorem bitsLen_any (n : Nat) (w : World) (h : n ≤ 8) : Calls Try.prog 93 #[.int .u64 n] w (SomeInt w) := by
  go_enter Try.func93, Try.ntmps93
  go_wp2_with fail
  refine (len64_any n _ h).mono ?_
  rintro e w' ⟨⟨z, rfl⟩, rfl⟩
  go_wp2
  go_ret
  exact ⟨⟨_, rfl⟩, rfl⟩

set_option maxRecDepth 100000 in
set_option maxHeartbeats 2000000 in
theorem pdq_any (lo g n cap : Nat) (z : Int) (l : List Pl) (w : World) (h : PlsO lo w g n cap l) (h1 : 1 ≤ n) (h12 : n ≤ 12) :
    Calls Try.prog 92 #[.slice (some ⟨g, 0, none⟩) n cap, .int .i64 0, .int .i64 n, .int .i64 z, .func (.func 85) #[] #[]] w (Sorts lo g n cap l w) := by
  have hl : (n : Int) ≤ 12 := by omega
  go_enter Try.func92, Try.ntmps92
  go_wp2
  go_loopw [1, 2] (fun s1 s2 W => s1 = .int .i64 0 ∧ s2 = .int .i64 n ∧ W = w) (fun _ _ _ => 0)
  case atStart => exact ⟨rfl, rfl, rfl⟩
  case round =>
    obtain ⟨rfl, rfl, rfl⟩ := hrel
    go_wp2_with fail
    refine (insertion_any lo g n cap l _ h h1 h12).mono ?_
    rintro e w1 ⟨⟨v, rfl⟩, hb, ho⟩
    go_wp2
    refine bodyPost_ret (results_none rfl _ _ _) rfl ?_
    exact ⟨⟨_, rfl⟩, hb, ho⟩

set_option maxHeartbeats 1000000 in
theorem sortFunc_any (lo g n cap : Nat) (l : List Pl) (w : World) (h : PlsO lo w g n cap l) (h1 : 1 ≤ n) (h8 : n ≤ 8) :
    Calls Try.prog 84 #[.slice (some ⟨g, 0, none⟩) n cap, .func (.func 85) #[] #[]] w (Sorts lo g n cap l w) := by
  have hw : IntKind.u64.wrap (n : Int) = (n : Int) := by unfold IntKind.wrap; simp [IntKind.bits]; omega
  go_enter Try.func84, Try.ntmps84
  go_wp2_with fail
  refine (bitsLen_any n _ h8).mono ?_
  rintro e w' ⟨⟨z, rfl⟩, rfl⟩
  go_wp2_with fail
  refine (pdq_any lo g n cap z l _ h h1 (by omega)).mono ?_
  rintro e w1 ⟨⟨v, rfl⟩, hb, ho⟩
  go_wp2
  go_end0
  exact ⟨⟨_, rfl⟩, hb, ho⟩

end Go.Proofs.Ytnebllfmnandgaa
