/-
  The walks of RingOk and PlaceAt, of both sides.
-/
import Derived.Test.YtidacajbdjicjaaRingB
namespace Go.Proofs.Ytidacajbdjicjaa
set_option linter.unusedSimpArgs false
set_option linter.unusedVariables false
open Go.RowKit
attribute [local go_sem ↓] Go.wp_at_zero Go.wp_at_succ

def okB (b : Int) (c : Bool) (d : Int) : Bool := decide (0 ≤ b) && decide (b ≤ 1000000) && (bif c then decide (1 ≤ d) && decide (d ≤ 1000000) else (d == 0))
theorem okB_no {b d : Int} {c : Bool} (h : okB b c d = true) : 0 ≤ b ∧ b ≤ 1000000 := by
  simp [okB] at h; omega

set_option maxHeartbeats 400000 in
theorem iplaceOk_any (a c : Bool) (b d : Int) (w : World) :
    Calls Try.prog 28 #[.agg #[.bool a, .int .i64 b, .bool c, .int .i64 d]] w (RetBelow (.bool (okB b c d)) w) := by
  cases c
  all_goals
    go_enter Try.func28, Try.ntmps28
    go_wp2
    all_goals
      go_ret
      exact .mk (by simp [okB, *] <;> omega) ((Below.refl _ _).alloc (Nat.le_refl _) _)

set_option maxHeartbeats 400000 in
theorem splaceOk_any (a c : Bool) (b d : Int) (w : World) :
    Calls Try.prog 22 #[.agg #[.bool a, .int .i64 b, .bool c, .int .i64 d]] w (RetBelow (.bool (okB b c d)) w) := by
  cases c
  all_goals
    go_enter Try.func22, Try.ntmps22
    go_wp2
    all_goals
      go_ret
      exact .mk (by simp [okB, *] <;> omega) ((Below.refl _ _).alloc (Nat.le_refl _) _)

/-- The place at i is right, and its number is i, modulo how many there are. -/
def okAt (l : List Pl) (i : Nat) : Bool := match l[i]? with
  | some p => okB p.n p.f p.v && (p.n % (l.length : Int) == (i : Int))
  | none => true
theorem okAt_some {l : List Pl} {i : Nat} {p : Pl} (h : l[i]? = some p) : okAt l i = (okB p.n p.f p.v && (p.n % (l.length : Int) == (i : Int))) := by simp [okAt, h]
def allB (l : List Pl) : Bool := (List.range l.length).all (okAt l)
theorem allB_false {l : List Pl} {i : Nat} (hi : i < l.length) (h : okAt l i = false) : allB l = false := by
  unfold allB
  rw [List.all_eq_false]
  exact ⟨i, List.mem_range.2 hi, by simp [h]⟩
theorem all_succ {l : List Pl} {i : Nat} (h : (List.range i).all (okAt l) = true) (h' : okAt l i = true) : (List.range (i + 1)).all (okAt l) = true := by
  rw [List.range_succ, List.all_append, h]; simp [h']

def nextB (c : Bool) (x : Int) : Bool := (x == -1) || (c && idxB x)
def rgOk (h t : Int) (c : Bool) (x : Int) (l : List Pl) : Bool := noB h && noB t && nextB c x && roundB l.length && allB l

end Go.Proofs.Ytidacajbdjicjaa
