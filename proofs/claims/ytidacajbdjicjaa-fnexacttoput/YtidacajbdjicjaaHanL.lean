/-
  The walks of the laws on HandOk, Resting, ToPut, ToTake, IsPutting.
-/
import Derived.Test.YtidacajbdjicjaaHanI
namespace Go.Proofs.Ytidacajbdjicjaa
set_option linter.unusedSimpArgs false
set_option linter.unusedVariables false
open Go.RowKit
set_option linter.unusedVariables false
attribute [local go_sem ↓] Go.wp_at_zero Go.wp_at_succ

set_option maxRecDepth 100000 in
set_option maxHeartbeats 1000000 in
theorem exactHandOk_any (h : Hd) (w : World) : Calls Try.prog 3 #[hdV h] w (RetBelow (.bool true) w) := by
  unfold hdV
  go_enter Try.func3, Try.ntmps3
  go_wp2_with fail
  refine calls_abs (fun W => Below w.heap.size w W ∧ BoxAt W w.heap.size #[.int .i64 h.at_, .int .i64 h.v, .int .i64 h.r, .int .i64 h.t, .bool h.seen.s, .int .i64 h.seen.n, .bool h.seen.f, .int .i64 h.seen.v, .int .i64 h.tr, .int .i64 h.sp, .bool h.ag, .int .i64 h.re] 25) ⟨(Below.refl _ _).alloc (Nat.le_refl _) _, BoxAt.new _ _ _⟩ ?_
  rintro W ⟨hB, hx⟩
  refine (toHand_any h _).mono ?_
  rintro e w1 ⟨rfl, hb1⟩
  replace hx := hx.below hb1 hx.lt
  replace hB := bstep hB hB.size hb1
  clear hb1
  go_wp2_with fail
  refine (shandOk_any h _).mono ?_
  rintro e w2 ⟨rfl, hb1⟩
  replace hx := hx.below hb1 hx.lt
  replace hB := bstep hB hB.size hb1
  clear hb1
  have kx := hx.cell
  go_wp2_with fail
  clear kx
  refine (toHand_any h _).mono ?_
  rintro e w1 ⟨rfl, hb1⟩
  replace hx := hx.below hb1 hx.lt
  replace hB := bstep hB hB.size hb1
  clear hb1
  go_wp2_with fail
  refine (ihandOk_any h _).mono ?_
  rintro e w2 ⟨rfl, hb1⟩
  replace hx := hx.below hb1 hx.lt
  replace hB := bstep hB hB.size hb1
  clear hb1
  have kx := hx.cell
  go_wp2
  go_ret
  exact .mk rfl hB

set_option maxRecDepth 100000 in
set_option maxHeartbeats 1000000 in
theorem exactIsPutting_any (h : Hd) (w : World) : Calls Try.prog 7 #[hdV h] w (RetBelow (.bool true) w) := by
  unfold hdV
  go_enter Try.func7, Try.ntmps7
  go_wp2_with fail
  refine calls_abs (fun W => Below w.heap.size w W ∧ BoxAt W w.heap.size #[.int .i64 h.at_, .int .i64 h.v, .int .i64 h.r, .int .i64 h.t, .bool h.seen.s, .int .i64 h.seen.n, .bool h.seen.f, .int .i64 h.seen.v, .int .i64 h.tr, .int .i64 h.sp, .bool h.ag, .int .i64 h.re] 25) ⟨(Below.refl _ _).alloc (Nat.le_refl _) _, BoxAt.new _ _ _⟩ ?_
  rintro W ⟨hB, hx⟩
  refine (toHand_any h _).mono ?_
  rintro e w1 ⟨rfl, hb1⟩
  replace hx := hx.below hb1 hx.lt
  replace hB := bstep hB hB.size hb1
  clear hb1
  go_wp2_with fail
  refine (sisPutting_any h _).mono ?_
  rintro e w2 ⟨rfl, hb1⟩
  replace hx := hx.below hb1 hx.lt
  replace hB := bstep hB hB.size hb1
  clear hb1
  have kx := hx.cell
  go_wp2_with fail
  clear kx
  refine (toHand_any h _).mono ?_
  rintro e w1 ⟨rfl, hb1⟩
  replace hx := hx.below hb1 hx.lt
  replace hB := bstep hB hB.size hb1
  clear hb1
  go_wp2_with fail
  refine (iisPutting_any h _).mono ?_
  rintro e w2 ⟨rfl, hb1⟩
  replace hx := hx.below hb1 hx.lt
  replace hB := bstep hB hB.size hb1
  clear hb1
  have kx := hx.cell
  go_wp2
  go_ret
  exact .mk rfl hB

set_option maxRecDepth 100000 in
set_option maxHeartbeats 1000000 in
theorem exactResting_any (w : World) : Calls Try.prog 4 #[] w (RetBelow (.bool true) w) := by
  go_enter Try.func4, Try.ntmps4
  go_wp2_with fail
  refine (sresting_any _).mono ?_
  rintro e w1 ⟨rfl, hB⟩
  unfold hdV
  have hs := hB.size
  go_wp2_with fail
  refine calls_abs (fun W => Below w.heap.size w W ∧ BoxAt W w1.heap.size #[.int .i64 resting.at_, .int .i64 resting.v, .int .i64 resting.r, .int .i64 resting.t, .bool resting.seen.s, .int .i64 resting.seen.n, .bool resting.seen.f, .int .i64 resting.seen.v, .int .i64 resting.tr, .int .i64 resting.sp, .bool resting.ag, .int .i64 resting.re] 29) ⟨hB.alloc hB.size _, BoxAt.new _ _ _⟩ ?_
  clear hB
  rintro W ⟨hB, hx⟩
  refine (iresting_any _).mono ?_
  rintro e w2 ⟨rfl, hb1⟩
  replace hx := hx.below hb1 hx.lt
  replace hB := bstep hB hB.size hb1
  clear hb1
  have lx := hx.lt
  have kx := hx.cell
  have ne : ¬ w1.heap.size = w2.heap.size := by omega
  unfold hdV
  go_wp2_with fail
  refine calls_abs (fun W => Below w.heap.size w W) (hB.alloc hB.size _) ?_
  clear hB hx kx lx
  rintro W' hB
  refine (eqHand_same resting _).mono ?_
  rintro e w3 ⟨rfl, hb1⟩
  replace hB := bstep hB hB.size hb1
  go_wp2
  go_ret
  exact .mk rfl hB

set_option maxRecDepth 100000 in
set_option maxHeartbeats 2000000 in
theorem exactToPut_any (h : Hd) (v : Int) (w : World) : Calls Try.prog 5 #[hdV h, .int .i64 v] w (RetBelow (.bool true) w) := by
  have HS := stoPut_any h v
  have HI := itoPut_any h v
  generalize toPut h v = q at HS HI
  obtain ⟨q, t⟩ := q
  unfold hdV
  go_enter Try.func5, Try.ntmps5
  go_wp2_with fail
  refine calls_abs (fun W => Below w.heap.size w W ∧ BoxAt W w.heap.size #[.int .i64 h.at_, .int .i64 h.v, .int .i64 h.r, .int .i64 h.t, .bool h.seen.s, .int .i64 h.seen.n, .bool h.seen.f, .int .i64 h.seen.v, .int .i64 h.tr, .int .i64 h.sp, .bool h.ag, .int .i64 h.re] 25) ⟨(Below.refl _ _).alloc (Nat.le_refl _) _, BoxAt.new _ _ _⟩ ?_
  rintro W ⟨hB, hx⟩
  refine (toHand_any h _).mono ?_
  rintro e w1 ⟨rfl, hb1⟩
  replace hx := hx.below hb1 hx.lt
  replace hB := bstep hB hB.size hb1
  clear hb1
  go_wp2_with fail
  refine (HS _).mono ?_
  rintro e w2 ⟨rfl, hb1⟩
  replace hx := hx.below hb1 hx.lt
  replace hB := bstep hB hB.size hb1
  clear hb1
  have kx := hx.cell
  have lx := hx.lt
  unfold hdV
  go_wp2_with fail
  refine calls_abs (fun W => Below w.heap.size w W ∧ BoxAt W w.heap.size #[.int .i64 h.at_, .int .i64 h.v, .int .i64 h.r, .int .i64 h.t, .bool h.seen.s, .int .i64 h.seen.n, .bool h.seen.f, .int .i64 h.seen.v, .int .i64 h.tr, .int .i64 h.sp, .bool h.ag, .int .i64 h.re] 25 ∧ BoxAt W w2.heap.size #[.int .i64 q.at_, .int .i64 q.v, .int .i64 q.r, .int .i64 q.t, .bool q.seen.s, .int .i64 q.seen.n, .bool q.seen.f, .int .i64 q.seen.v, .int .i64 q.tr, .int .i64 q.sp, .bool q.ag, .int .i64 q.re] 29) ⟨hB.alloc hB.size _, hx.alloc _, BoxAt.new _ _ _⟩ ?_
  clear hB hx kx
  rintro W2 ⟨hB, hx, hy⟩
  refine (toHand_any h _).mono ?_
  rintro e w3 ⟨rfl, hb1⟩
  replace hx := hx.below hb1 hx.lt
  replace hy := hy.below hb1 hy.lt
  replace hB := bstep hB hB.size hb1
  clear hb1
  go_wp2_with fail
  refine (HI _).mono ?_
  rintro e w4 ⟨rfl, hb1⟩
  replace hx := hx.below hb1 hx.lt
  replace hy := hy.below hb1 hy.lt
  replace hB := bstep hB hB.size hb1
  clear hb1
  have ky := hy.cell
  have ly := hy.lt
  unfold hdV
  go_wp2_with fail
  refine calls_abs (fun W => Below w.heap.size w W) (hB.alloc hB.size _) ?_
  clear hB hx hy ky lx ly
  rintro W5 hB
  refine (eqHand_same q _).mono ?_
  rintro e w5 ⟨rfl, hb1⟩
  replace hB := bstep hB hB.size hb1
  go_wp2
  go_ret
  exact .mk rfl hB

set_option maxRecDepth 100000 in
set_option maxHeartbeats 2000000 in
theorem exactToTake_any (h : Hd) (w : World) : Calls Try.prog 6 #[hdV h] w (RetBelow (.bool true) w) := by
  have HS := stoTake_any h
  have HI := itoTake_any h
  generalize toTake h = q at HS HI
  obtain ⟨q, t⟩ := q
  unfold hdV
  go_enter Try.func6, Try.ntmps6
  go_wp2_with fail
  refine calls_abs (fun W => Below w.heap.size w W ∧ BoxAt W w.heap.size #[.int .i64 h.at_, .int .i64 h.v, .int .i64 h.r, .int .i64 h.t, .bool h.seen.s, .int .i64 h.seen.n, .bool h.seen.f, .int .i64 h.seen.v, .int .i64 h.tr, .int .i64 h.sp, .bool h.ag, .int .i64 h.re] 25) ⟨(Below.refl _ _).alloc (Nat.le_refl _) _, BoxAt.new _ _ _⟩ ?_
  rintro W ⟨hB, hx⟩
  refine (toHand_any h _).mono ?_
  rintro e w1 ⟨rfl, hb1⟩
  replace hx := hx.below hb1 hx.lt
  replace hB := bstep hB hB.size hb1
  clear hb1
  go_wp2_with fail
  refine (HS _).mono ?_
  rintro e w2 ⟨rfl, hb1⟩
  replace hx := hx.below hb1 hx.lt
  replace hB := bstep hB hB.size hb1
  clear hb1
  have kx := hx.cell
  have lx := hx.lt
  unfold hdV
  go_wp2_with fail
  refine calls_abs (fun W => Below w.heap.size w W ∧ BoxAt W w.heap.size #[.int .i64 h.at_, .int .i64 h.v, .int .i64 h.r, .int .i64 h.t, .bool h.seen.s, .int .i64 h.seen.n, .bool h.seen.f, .int .i64 h.seen.v, .int .i64 h.tr, .int .i64 h.sp, .bool h.ag, .int .i64 h.re] 25 ∧ BoxAt W w2.heap.size #[.int .i64 q.at_, .int .i64 q.v, .int .i64 q.r, .int .i64 q.t, .bool q.seen.s, .int .i64 q.seen.n, .bool q.seen.f, .int .i64 q.seen.v, .int .i64 q.tr, .int .i64 q.sp, .bool q.ag, .int .i64 q.re] 29) ⟨hB.alloc hB.size _, hx.alloc _, BoxAt.new _ _ _⟩ ?_
  clear hB hx kx
  rintro W2 ⟨hB, hx, hy⟩
  refine (toHand_any h _).mono ?_
  rintro e w3 ⟨rfl, hb1⟩
  replace hx := hx.below hb1 hx.lt
  replace hy := hy.below hb1 hy.lt
  replace hB := bstep hB hB.size hb1
  clear hb1
  go_wp2_with fail
  refine (HI _).mono ?_
  rintro e w4 ⟨rfl, hb1⟩
  replace hx := hx.below hb1 hx.lt
  replace hy := hy.below hb1 hy.lt
  replace hB := bstep hB hB.size hb1
  clear hb1
  have ky := hy.cell
  have ly := hy.lt
  unfold hdV
  go_wp2_with fail
  refine calls_abs (fun W => Below w.heap.size w W) (hB.alloc hB.size _) ?_
  clear hB hx hy ky lx ly
  rintro W5 hB
  refine (eqHand_same q _).mono ?_
  rintro e w5 ⟨rfl, hb1⟩
  replace hB := bstep hB hB.size hb1
  go_wp2
  go_ret
  exact .mk rfl hB

end Go.Proofs.Ytidacajbdjicjaa
