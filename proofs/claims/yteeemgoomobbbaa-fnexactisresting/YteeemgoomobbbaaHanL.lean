/-
 The walks of the laws on HandOk, Resting, ToPut, ToTake, IsPutting.
-/
import Derived.Test.YteeemgoomobbbaaHanI
namespace Go.Proofs.Yteeemgoomobbbaa
set_option linter.unusedSimpArgs false
set_option linter.unusedVariables false
open Go.RowKit
set_option linter.unusedVariables false
attribute [local go_sem ↓] Go.wp_at_zero Go.wp_at_succ

set_option maxRecDepth 100000 in
set_option maxHeartbeats 1000000 in
theorem exactIsPutting_any (h : Hd) (w : World) : Calls Try.prog 5 #[hdV h] w (RetBelow (.bool true) w) := by
 unfold hdV
 go_enter Try.func5, Try.ntmps5
 go_wp2_with fail
 refine calls_abs (fun W => Below w.heap.size w W ∧ BoxAt W w.heap.size (aH h) 25) ⟨(Below.refl _ _).alloc (Nat.le_refl _) _, BoxAt.new _ _ _⟩ ?_
 rintro W ⟨hB, hx⟩
 refine (toHand_any h _).mono ?_
 rintro e w1 ⟨rfl, hb1⟩
 replace hx := hx.below hb1 hx.lt
 replace hB := bstep hB hB.size hb1
 clear hb1
 go_wp2_with fail
 refine (sisPutting_any h _).mono ?_
 rintro e w2 ⟨rfl, hb1⟩
 replace hx := hx.below hb1 hx.lt
 replace hB := bstep hB hB.size hb1
 clear hb1
 have kx := hx.cell
 go_wp2_with fail
 clear kx
 refine (toHand_any h _).mono ?_
 rintro e w1 ⟨rfl, hb1⟩
 replace hx := hx.below hb1 hx.lt
 replace hB := bstep hB hB.size hb1
 clear hb1
 go_wp2_with fail
 refine (iisPutting_any h _).mono ?_
 rintro e w2 ⟨rfl, hb1⟩
 replace hx := hx.below hb1 hx.lt
 replace hB := bstep hB hB.size hb1
 clear hb1
 have kx := hx.cell
 go_wp2
 go_ret
 exact .mk rfl hB

set_option maxRecDepth 100000 in
set_option maxHeartbeats 1000000 in
theorem exactIsResting_any (h : Hd) (w : World) : Calls Try.prog 3 #[hdV h] w (RetBelow (.bool true) w) := by
 unfold hdV
 go_enter Try.func3, Try.ntmps3
 go_wp2_with fail
 refine calls_abs (fun W => Below w.heap.size w W ∧ BoxAt W w.heap.size (aH h) 25) ⟨(Below.refl _ _).alloc (Nat.le_refl _) _, BoxAt.new _ _ _⟩ ?_
 rintro W ⟨hB, hx⟩
 refine (toHand_any h _).mono ?_
 rintro e w1 ⟨rfl, hb1⟩
 replace hx := hx.below hb1 hx.lt
 replace hB := bstep hB hB.size hb1
 clear hb1
 go_wp2_with fail
 refine (sisResting_any h _).mono ?_
 rintro e w2 ⟨rfl, hb1⟩
 replace hx := hx.below hb1 hx.lt
 replace hB := bstep hB hB.size hb1
 clear hb1
 have kx := hx.cell
 go_wp2_with fail
 clear kx
 refine (toHand_any h _).mono ?_
 rintro e w1 ⟨rfl, hb1⟩
 replace hx := hx.below hb1 hx.lt
 replace hB := bstep hB hB.size hb1
 clear hb1
 go_wp2_with fail
 refine (iisResting_any h _).mono ?_
 rintro e w2 ⟨rfl, hb1⟩
 replace hx := hx.below hb1 hx.lt
 replace hB := bstep hB hB.size hb1
 clear hb1
 have kx := hx.cell
 go_wp2
 go_ret
 exact .mk rfl hB

end Go.Proofs.Yteeemgoomobbbaa
