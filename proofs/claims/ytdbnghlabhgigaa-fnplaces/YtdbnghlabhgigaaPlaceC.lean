/-
  The walks of the laws on MayPut and Left.
-/
import Derived.Test.YtdbnghlabhgigaaPlaceB
namespace Go.Proofs.Ytdbnghlabhgigaa
open Go.RowKit
open Go.Lib
attribute [local go_sem ↓] Go.wp_at_zero Go.wp_at_succ

set_option maxHeartbeats 400000 in
theorem exactMayPut_any (a c : Bool) (b d : Int) (t : Int) (w : World) :
    Calls Try.prog 6 #[.agg #[.bool a, .int .i64 b, .bool c, .int .i64 d], .int .i64 t] w (RetBelow (.bool true) w) := by
  go_enter Try.func6, Try.ntmps6
  go_wp2_with fail
  refine (toPlace_any _ _ _ _ _).mono ?_
  rintro e w1 ⟨rfl, hb1⟩
  obtain ⟨hc1, hf1, hz1⟩ := bcell hb1
  simp at hz1
  go_wp2_with fail
  refine (smayPut_any _ _ _ _ _ _).mono ?_
  rintro e w2 ⟨rfl, hb2⟩
  obtain ⟨hc2, hf2, hz2⟩ := bcell hb2
  have q2 : w.heap.size < w1.heap.size := by omega
  go_wp2_with fail
  refine (toPlace_any _ _ _ _ _).mono ?_
  rintro e w3 ⟨rfl, hb3⟩
  obtain ⟨hc3, hf3, hz3⟩ := bcell hb3
  go_wp2_with fail
  refine (imayPut_any _ _ _ _ _ _).mono ?_
  rintro e w4 ⟨rfl, hb4⟩
  obtain ⟨hc4, hf4, hz4⟩ := bcell hb4
  go_wp2
  go_ret
  exact .mk rfl (bstep (bstep (bstep (bstep ((Below.refl _ _).alloc (Nat.le_refl _) _) (by simp) hb1) (by omega) hb2) (by omega) hb3) (by omega) hb4)

set_option maxHeartbeats 400000 in
theorem exactLeft_any (a c : Bool) (b d : Int) (t n : Int) (w : World) :
    Calls Try.prog 7 #[.agg #[.bool a, .int .i64 b, .bool c, .int .i64 d], .int .i64 t, .int .i64 n] w (RetBelow (.bool true) w) := by
  go_enter Try.func7, Try.ntmps7
  go_wp2_with fail
  refine (toPlace_any _ _ _ _ _).mono ?_
  rintro e w1 ⟨rfl, hb1⟩
  obtain ⟨hc1, hf1, hz1⟩ := bcell hb1
  simp at hz1
  go_wp2_with fail
  refine (sleft_any _ _ _ _ _ _ _).mono ?_
  rintro e w2 ⟨rfl, hb2⟩
  obtain ⟨hc2, hf2, hz2⟩ := bcell hb2
  have q2 : w.heap.size < w1.heap.size := by omega
  have q3 : w.heap.size < w2.heap.size := by omega
  go_wp2_with fail
  refine (toPlace_any _ _ _ _ _).mono ?_
  rintro e w3 ⟨rfl, hb3⟩
  obtain ⟨hc3, hf3, hz3⟩ := bcell hb3
  simp at hz3
  go_wp2_with fail
  refine (ileft_any _ _ _ _ _ _ _).mono ?_
  rintro e w4 ⟨rfl, hb4⟩
  obtain ⟨hc4, hf4, hz4⟩ := bcell hb4
  have q4 : w2.heap.size < w3.heap.size := by omega
  have q5 : w2.heap.size < w4.heap.size := by omega
  go_wp2_with fail
  refine (eqPlace_same _ _ _ _ _).mono ?_
  rintro e w5 ⟨rfl, hb5⟩
  have hz5 := hb5.size
  simp at hz5
  go_wp2
  go_ret
  exact .mk rfl (bstep ((bstep (bstep ((bstep (bstep ((Below.refl _ _).alloc (Nat.le_refl _) _) (by simp) hb1) (by omega) hb2).alloc (by omega) _) (by simp; omega) hb3) (by omega) hb4).alloc (by omega) _) (by simp; omega) hb5)

end Go.Proofs.Ytdbnghlabhgigaa
