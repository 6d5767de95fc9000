/-
  The walks of MayPut, Left and Swapped, of both sides.
-/
import Derived.Test.YtdbnghlabhgigaaPlaceA
namespace Go.Proofs.Ytdbnghlabhgigaa
open Go.RowKit
attribute [local go_sem ↓] Go.wp_at_zero Go.wp_at_succ

set_option maxHeartbeats 400000 in
theorem imayPut_any (a c : Bool) (b d : Int) (t : Int) (w : World) :
    Calls Try.prog 17 #[.agg #[.bool a, .int .i64 b, .bool c, .int .i64 d], .int .i64 t] w (RetBelow (.bool (!c && decide (b ≤ t))) w) := by
  cases c
  all_goals
    go_enter Try.func17, Try.ntmps17
    go_wp2
    all_goals
      go_ret
      exact .mk (by simp) ((Below.refl _ _).alloc (Nat.le_refl _) _)

set_option maxHeartbeats 400000 in
theorem smayPut_any (a c : Bool) (b d : Int) (t : Int) (w : World) :
    Calls Try.prog 18 #[.agg #[.bool a, .int .i64 b, .bool c, .int .i64 d], .int .i64 t] w (RetBelow (.bool (!c && decide (b ≤ t))) w) := by
  cases c
  all_goals
    go_enter Try.func18, Try.ntmps18
    go_wp2
    all_goals
      go_ret
      exact .mk (by simp) ((Below.refl _ _).alloc (Nat.le_refl _) _)

set_option maxHeartbeats 400000 in
theorem ileft_any (a c : Bool) (b d : Int) (t n : Int) (w : World) :
    Calls Try.prog 13 #[.agg #[.bool a, .int .i64 b, .bool c, .int .i64 d], .int .i64 t, .int .i64 n] w (RetBelow (.agg #[.bool a, .int .i64 (wrap64 (t + n)), .bool false, .int .i64 0]) w) := by
  go_enter Try.func13, Try.ntmps13
  go_wp2
  refine bodyPost_ret (v := .agg #[.bool a, .int .i64 (wrap64 (t + n)), .bool false, .int .i64 0]) (by simp [results, Try.results13, go_sem]) rfl ⟨rfl, ?_⟩
  exact ((Below.refl _ _).alloc (Nat.le_refl _) _).alloc (by simp) _

set_option maxHeartbeats 400000 in
theorem sleft_any (a c : Bool) (b d : Int) (t n : Int) (w : World) :
    Calls Try.prog 19 #[.agg #[.bool a, .int .i64 b, .bool c, .int .i64 d], .int .i64 t, .int .i64 n] w (RetBelow (.agg #[.bool a, .int .i64 (wrap64 (t + n)), .bool false, .int .i64 0]) w) := by
  go_enter Try.func19, Try.ntmps19
  go_wp2
  refine bodyPost_ret (v := .agg #[.bool a, .int .i64 (wrap64 (t + n)), .bool false, .int .i64 0]) (by simp [results, Try.results19, go_sem]) rfl ⟨rfl, ?_⟩
  exact ((Below.refl _ _).alloc (Nat.le_refl _) _).alloc (by simp) _

set_option maxHeartbeats 400000 in
theorem iswapped_yes (a a2 c c2 : Bool) (b b2 d d2 : Int) (w : World) :
    Calls Try.prog 10 #[.agg #[.bool a, .int .i64 b, .bool c, .int .i64 d], .agg #[.bool a, .int .i64 b, .bool c, .int .i64 d], .agg #[.bool a2, .int .i64 b2, .bool c2, .int .i64 d2]] w (RetBelow (.tuple #[.agg #[.bool a2, .int .i64 b2, .bool c2, .int .i64 d2], .bool true]) w) := by
  go_enter Try.func10, Try.ntmps10
  go_wp2
  refine bodyPost_ret (v := .tuple #[.agg #[.bool a2, .int .i64 b2, .bool c2, .int .i64 d2], .bool true]) (by simp [results, Try.results10, go_sem]) rfl ⟨rfl, ?_⟩
  exact ((((Below.refl _ _).alloc (Nat.le_refl _) _).alloc (by simp) _).alloc (by simp; omega) _).alloc (by simp; omega) _

set_option maxHeartbeats 400000 in
theorem iswapped_no (a a1 a2 c c1 c2 : Bool) (b b1 b2 d d1 d2 : Int) (w : World) (h : ¬ (a = a1 ∧ b = b1 ∧ c = c1 ∧ d = d1)) :
    Calls Try.prog 10 #[.agg #[.bool a, .int .i64 b, .bool c, .int .i64 d], .agg #[.bool a1, .int .i64 b1, .bool c1, .int .i64 d1], .agg #[.bool a2, .int .i64 b2, .bool c2, .int .i64 d2]] w (RetBelow (.tuple #[.agg #[.bool a, .int .i64 b, .bool c, .int .i64 d], .bool false]) w) := by
  have H := Lib.hid h; clear h
  go_enter Try.func10, Try.ntmps10
  go_wp2
  · exact absurd ⟨‹_›, ‹_›, ‹_›, ‹_›⟩ H.out
  all_goals
    refine bodyPost_ret (v := .tuple #[.agg #[.bool a, .int .i64 b, .bool c, .int .i64 d], .bool false]) (by simp [results, Try.results10, go_sem, *]) rfl ⟨rfl, ?_⟩
    exact ((((Below.refl _ _).alloc (Nat.le_refl _) _).alloc (by simp) _).alloc (by simp; omega) _).alloc (by simp; omega) _

set_option maxHeartbeats 400000 in
theorem sswapped_yes (a a2 c c2 : Bool) (b b2 d d2 : Int) (w : World) :
    Calls Try.prog 14 #[.agg #[.bool a, .int .i64 b, .bool c, .int .i64 d], .agg #[.bool a, .int .i64 b, .bool c, .int .i64 d], .agg #[.bool a2, .int .i64 b2, .bool c2, .int .i64 d2]] w (RetBelow (.tuple #[.agg #[.bool a2, .int .i64 b2, .bool c2, .int .i64 d2], .bool true]) w) := by
  go_enter Try.func14, Try.ntmps14
  go_wp2
  refine bodyPost_ret (v := .tuple #[.agg #[.bool a2, .int .i64 b2, .bool c2, .int .i64 d2], .bool true]) (by simp [results, Try.results14, go_sem]) rfl ⟨rfl, ?_⟩
  exact ((((Below.refl _ _).alloc (Nat.le_refl _) _).alloc (by simp) _).alloc (by simp; omega) _).alloc (by simp; omega) _

set_option maxHeartbeats 400000 in
theorem sswapped_no (a a1 a2 c c1 c2 : Bool) (b b1 b2 d d1 d2 : Int) (w : World) (h : ¬ (a = a1 ∧ b = b1 ∧ c = c1 ∧ d = d1)) :
    Calls Try.prog 14 #[.agg #[.bool a, .int .i64 b, .bool c, .int .i64 d], .agg #[.bool a1, .int .i64 b1, .bool c1, .int .i64 d1], .agg #[.bool a2, .int .i64 b2, .bool c2, .int .i64 d2]] w (RetBelow (.tuple #[.agg #[.bool a, .int .i64 b, .bool c, .int .i64 d], .bool false]) w) := by
  have H := Lib.hid h; clear h
  go_enter Try.func14, Try.ntmps14
  go_wp2
  · exact absurd ⟨‹_›, ‹_›, ‹_›, ‹_›⟩ H.out
  all_goals
    refine bodyPost_ret (v := .tuple #[.agg #[.bool a, .int .i64 b, .bool c, .int .i64 d], .bool false]) (by simp [results, Try.results14, go_sem, *]) rfl ⟨rfl, ?_⟩
    exact ((((Below.refl _ _).alloc (Nat.le_refl _) _).alloc (by simp) _).alloc (by simp; omega) _).alloc (by simp; omega) _

set_option maxHeartbeats 400000 in
theorem eqPlace_same (a c : Bool) (b d : Int) (w : World) :
    Calls Try.prog 21 #[.agg #[.bool a, .int .i64 b, .bool c, .int .i64 d], .agg #[.bool a, .int .i64 b, .bool c, .int .i64 d]] w (RetBelow (.bool true) w) := by
  go_enter Try.func21, Try.ntmps21
  go_wp2
  go_ret
  exact .mk (by simp) (((Below.refl _ _).alloc (Nat.le_refl _) _).alloc (by simp) _)

end Go.Proofs.Ytdbnghlabhgigaa
