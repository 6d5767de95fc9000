/-
  The walks of the functions on places, and of the law on PlaceOk.
-/
import Derived.Test.YtdbnghlabhgigaaRows
import Derived.Test.YtdbnghlabhgigaaKit
namespace Go.Proofs.Ytdbnghlabhgigaa
open Go.RowKit
attribute [local go_sem ↓] Go.wp_at_zero Go.wp_at_succ

def okB (b : Int) (c : Bool) (d : Int) : Bool := decide (0 ≤ b) && decide (b ≤ 1000000) && (bif c then decide (1 ≤ d) && decide (d ≤ 1000000) else (d == 0))
set_option maxHeartbeats 400000 in
theorem toPlace_any (a c : Bool) (b d : Int) (w : World) :
    Calls Try.prog 20 #[.agg #[.bool a, .int .i64 b, .bool c, .int .i64 d]] w (RetBelow (.agg #[.bool a, .int .i64 b, .bool c, .int .i64 d]) w) := by
  go_enter Try.func20, Try.ntmps20
  go_wp2
  refine bodyPost_ret (v := .agg #[.bool a, .int .i64 b, .bool c, .int .i64 d]) (by simp [results, Try.results20, go_sem]) rfl ⟨rfl, ?_⟩
  exact (((Below.refl _ _).alloc (Nat.le_refl _) _).alloc (by simp) _).alloc (by simp; omega) _

set_option maxHeartbeats 400000 in
theorem iplaceOk_any (a c : Bool) (b d : Int) (w : World) :
    Calls Try.prog 15 #[.agg #[.bool a, .int .i64 b, .bool c, .int .i64 d]] w (RetBelow (.bool (okB b c d)) w) := by
  cases c
  all_goals
    go_enter Try.func15, Try.ntmps15
    go_wp2
    all_goals
      go_ret
      exact .mk (by simp [okB, *] <;> omega) ((Below.refl _ _).alloc (Nat.le_refl _) _)

set_option maxHeartbeats 400000 in
theorem splaceOk_any (a c : Bool) (b d : Int) (w : World) :
    Calls Try.prog 16 #[.agg #[.bool a, .int .i64 b, .bool c, .int .i64 d]] w (RetBelow (.bool (okB b c d)) w) := by
  cases c
  all_goals
    go_enter Try.func16, Try.ntmps16
    go_wp2
    all_goals
      go_ret
      exact .mk (by simp [okB, *] <;> omega) ((Below.refl _ _).alloc (Nat.le_refl _) _)

set_option maxHeartbeats 400000 in
theorem exactPlaceOk_any (a c : Bool) (b d : Int) (w : World) :
    Calls Try.prog 4 #[.agg #[.bool a, .int .i64 b, .bool c, .int .i64 d]] w (RetBelow (.bool true) w) := by
  go_enter Try.func4, Try.ntmps4
  go_wp2_with fail
  refine (toPlace_any _ _ _ _ _).mono ?_
  rintro e w1 ⟨rfl, hb1⟩
  obtain ⟨hc1, hf1, hz1⟩ := bcell hb1
  simp at hz1
  go_wp2_with fail
  refine (splaceOk_any _ _ _ _ _).mono ?_
  rintro e w2 ⟨rfl, hb2⟩
  obtain ⟨hc2, hf2, hz2⟩ := bcell hb2
  have q2 : w.heap.size < w1.heap.size := by omega
  go_wp2_with fail
  refine (toPlace_any _ _ _ _ _).mono ?_
  rintro e w3 ⟨rfl, hb3⟩
  obtain ⟨hc3, hf3, hz3⟩ := bcell hb3
  go_wp2_with fail
  refine (iplaceOk_any _ _ _ _ _).mono ?_
  rintro e w4 ⟨rfl, hb4⟩
  obtain ⟨hc4, hf4, hz4⟩ := bcell hb4
  go_wp2
  go_ret
  exact .mk rfl (bstep (bstep (bstep (bstep ((Below.refl _ _).alloc (Nat.le_refl _) _) (by simp) hb1) (by omega) hb2) (by omega) hb3) (by omega) hb4)

end Go.Proofs.Ytdbnghlabhgigaa
