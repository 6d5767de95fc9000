/-
 The walks of the laws on NothingTwice, InOrder, EmptyHeld and Busy.
-/
import Derived.Test.YtghgfbncijfocaaEvV
import Derived.Test.YtghgfbncijfocaaFacB
import Derived.Test.YtghgfbncijfocaaFacT
import Derived.Test.YtghgfbncijfocaaFacU
import Derived.Test.YtghgfbncijfocaaFacV
import Derived.Test.YtghgfbncijfocaaFacN
namespace Go.Proofs.Ytghgfbncijfocaa
set_option linter.unusedSimpArgs false
set_option linter.unusedVariables false
open Go.RowKit Go.ChangeShapes Go.WideShapes Go.ChangeAt Go.Joins
set_option linter.unusedVariables false
attribute [local go_sem] OpUpon

attribute [local go_sem ↓] Go.wp_at_zero Go.wp_at_succ

set_option maxRecDepth 100000 in
set_option maxHeartbeats 4000000 in
theorem exactNothingTwice_any (l : List Ev) (A : Option Addr) (n cap : Nat) (w : World) (hl0 : EvsR w A n l) (hn : n ≤ maxLen) :
  Calls Try.prog 3 #[.slice A n cap] w (RetBelow (.bool true) w) := by
 by_cases hbig : ¬ n ≤ 1048576
 ·
  go_enter Try.func3, Try.ntmps3
  go_wp2_with fail
  refine (szEventS_any A n cap 1048576 _ hn (by omega) (by omega)).mono ?_
  rintro e w1 ⟨rfl, hb1⟩
  rw [show szI 1048576 n = -1 by unfold szI; split <;> omega]
  go_wp2
  go_ret
  exact .mk rfl hb1
 have hn1 : n ≤ 1048576 := by omega
 clear hbig
 have hln := hl0.1
 obtain rfl : l.length = n := hln
 go_enter Try.func3, Try.ntmps3
 have hB := Below.refl w.heap.size w
 generalize hzz : szI 1048576 l.length = zz
 have hz0 : 0 ≤ zz := by rw [← hzz]; unfold szI; split <;> omega
 go_wp2_with fail
 refine (szEventS_any A l.length cap 1048576 _ hn (by omega) (by omega)).mono ?_
 rw [hzz]
 rintro e w1 ⟨rfl, hb1⟩
 have l1 := hb1.size
 replace hB := bstep hB hB.size hb1
 clear hb1
 go_wp2_with fail
 refine (toEventS_any A l.length cap l _ (hl0.below hB) hn1).mono ?_
 rintro e w2 ⟨X2, d2, rfl, hX2, hb2⟩
 have l2 := hb2.size
 replace hB := bstep hB hB.size hb2
 clear hb2
 go_wp2_with fail
 refine (snothing_any l X2 l.length d2 _ (EvsW.r hX2) hn1).mono ?_
 rintro e w3 ⟨rfl, hb3⟩
 have l3 := hb3.size
 replace hX2 := SlW.below hX2 hb3 (by omega)
 replace hB := bstep hB hB.size hb3
 clear hb3
 clear hX2
 go_wp2_with fail
 refine (toEventS_any A l.length cap l _ (hl0.below hB) hn1).mono ?_
 rintro e w4 ⟨X4, d4, rfl, hX4, hb4⟩
 have l4 := hb4.size
 replace hB := bstep hB hB.size hb4
 clear hb4
 go_wp2_with fail
 refine (inothing2_any l X4 l.length d4 _ (EvsW.r hX4) hn1).mono ?_
 rintro e w5 ⟨rfl, hb5⟩
 have l5 := hb5.size
 replace hX4 := SlW.below hX4 hb5 (by omega)
 replace hB := bstep hB hB.size hb5
 clear hb5
 go_wp2_with fail
 refine (toEventS_any A l.length cap l _ (hl0.below hB) hn1).mono ?_
 rintro e w6 ⟨X6, d6, rfl, hX6, hb6⟩
 have l6 := hb6.size
 replace hX4 := SlW.below hX4 hb6 (by omega)
 replace hB := bstep hB hB.size hb6
 clear hb6
 go_wp2_with fail
 refine (eqEventS_same X4 X6 l.length d4 d6 l _ (EvsW.r hX4) (EvsW.r hX6) (by omega)).mono ?_
 rintro e w7 ⟨rfl, hb7⟩
 have l7 := hb7.size
 replace hX4 := SlW.below hX4 hb7 (by omega)
 replace hX6 := SlW.below hX6 hb7 (by omega)
 replace hB := bstep hB hB.size hb7
 clear hb7
 clear hX6
 go_wp2
 go_ret
 exact .mk rfl hB

set_option maxRecDepth 100000 in
set_option maxHeartbeats 4000000 in
theorem exactInOrder_any (l : List Ev) (A : Option Addr) (n cap : Nat) (w : World) (hl0 : EvsR w A n l) (hn : n ≤ maxLen) :
  Calls Try.prog 4 #[.slice A n cap] w (RetBelow (.bool true) w) := by
 by_cases hbig : ¬ n ≤ 1048576
 ·
  go_enter Try.func4, Try.ntmps4
  go_wp2_with fail
  refine (szEventS_any A n cap 1048576 _ hn (by omega) (by omega)).mono ?_
  rintro e w1 ⟨rfl, hb1⟩
  rw [show szI 1048576 n = -1 by unfold szI; split <;> omega]
  go_wp2
  go_ret
  exact .mk rfl hb1
 have hn1 : n ≤ 1048576 := by omega
 clear hbig
 have hln := hl0.1
 obtain rfl : l.length = n := hln
 go_enter Try.func4, Try.ntmps4
 have hB := Below.refl w.heap.size w
 generalize hzz : szI 1048576 l.length = zz
 have hz0 : 0 ≤ zz := by rw [← hzz]; unfold szI; split <;> omega
 go_wp2_with fail
 refine (szEventS_any A l.length cap 1048576 _ hn (by omega) (by omega)).mono ?_
 rw [hzz]
 rintro e w1 ⟨rfl, hb1⟩
 have l1 := hb1.size
 replace hB := bstep hB hB.size hb1
 clear hb1
 go_wp2_with fail
 refine (toEventS_any A l.length cap l _ (hl0.below hB) hn1).mono ?_
 rintro e w2 ⟨X2, d2, rfl, hX2, hb2⟩
 have l2 := hb2.size
 replace hB := bstep hB hB.size hb2
 clear hb2
 go_wp2_with fail
 refine (sinOrder_any l X2 l.length d2 _ (EvsW.r hX2) hn1).mono ?_
 rintro e w3 ⟨rfl, hb3⟩
 have l3 := hb3.size
 replace hX2 := SlW.below hX2 hb3 (by omega)
 replace hB := bstep hB hB.size hb3
 clear hb3
 clear hX2
 go_wp2_with fail
 refine (toEventS_any A l.length cap l _ (hl0.below hB) hn1).mono ?_
 rintro e w4 ⟨X4, d4, rfl, hX4, hb4⟩
 have l4 := hb4.size
 replace hB := bstep hB hB.size hb4
 clear hb4
 go_wp2_with fail
 refine (iinOrder2_any l X4 l.length d4 _ (EvsW.r hX4) hn1).mono ?_
 rintro e w5 ⟨rfl, hb5⟩
 have l5 := hb5.size
 replace hX4 := SlW.below hX4 hb5 (by omega)
 replace hB := bstep hB hB.size hb5
 clear hb5
 go_wp2_with fail
 refine (toEventS_any A l.length cap l _ (hl0.below hB) hn1).mono ?_
 rintro e w6 ⟨X6, d6, rfl, hX6, hb6⟩
 have l6 := hb6.size
 replace hX4 := SlW.below hX4 hb6 (by omega)
 replace hB := bstep hB hB.size hb6
 clear hb6
 go_wp2_with fail
 refine (eqEventS_same X4 X6 l.length d4 d6 l _ (EvsW.r hX4) (EvsW.r hX6) (by omega)).mono ?_
 rintro e w7 ⟨rfl, hb7⟩
 have l7 := hb7.size
 replace hX4 := SlW.below hX4 hb7 (by omega)
 replace hX6 := SlW.below hX6 hb7 (by omega)
 replace hB := bstep hB hB.size hb7
 clear hb7
 clear hX6
 go_wp2
 go_ret
 exact .mk rfl hB

set_option maxRecDepth 100000 in
set_option maxHeartbeats 4000000 in
theorem exactEmptyHeld_any (l : List Ev) (A : Option Addr) (n cap : Nat) (w : World) (hl0 : EvsR w A n l) (hn : n ≤ maxLen) :
  Calls Try.prog 5 #[.slice A n cap] w (RetBelow (.bool true) w) := by
 by_cases hbig : ¬ n ≤ 1048576
 ·
  go_enter Try.func5, Try.ntmps5
  go_wp2_with fail
  refine (szEventS_any A n cap 1048576 _ hn (by omega) (by omega)).mono ?_
  rintro e w1 ⟨rfl, hb1⟩
  rw [show szI 1048576 n = -1 by unfold szI; split <;> omega]
  go_wp2
  go_ret
  exact .mk rfl hb1
 have hn1 : n ≤ 1048576 := by omega
 clear hbig
 have hln := hl0.1
 obtain rfl : l.length = n := hln
 go_enter Try.func5, Try.ntmps5
 have hB := Below.refl w.heap.size w
 generalize hzz : szI 1048576 l.length = zz
 have hz0 : 0 ≤ zz := by rw [← hzz]; unfold szI; split <;> omega
 go_wp2_with fail
 refine (szEventS_any A l.length cap 1048576 _ hn (by omega) (by omega)).mono ?_
 rw [hzz]
 rintro e w1 ⟨rfl, hb1⟩
 have l1 := hb1.size
 replace hB := bstep hB hB.size hb1
 clear hb1
 go_wp2_with fail
 refine (toEventS_any A l.length cap l _ (hl0.below hB) hn1).mono ?_
 rintro e w2 ⟨X2, d2, rfl, hX2, hb2⟩
 have l2 := hb2.size
 replace hB := bstep hB hB.size hb2
 clear hb2
 go_wp2_with fail
 refine (sempty_any l X2 l.length d2 _ (EvsW.r hX2) hn1).mono ?_
 rintro e w3 ⟨rfl, hb3⟩
 have l3 := hb3.size
 replace hX2 := SlW.below hX2 hb3 (by omega)
 replace hB := bstep hB hB.size hb3
 clear hb3
 clear hX2
 go_wp2_with fail
 refine (toEventS_any A l.length cap l _ (hl0.below hB) hn1).mono ?_
 rintro e w4 ⟨X4, d4, rfl, hX4, hb4⟩
 have l4 := hb4.size
 replace hB := bstep hB hB.size hb4
 clear hb4
 go_wp2_with fail
 refine (iempty2_any l X4 l.length d4 _ (EvsW.r hX4) hn1).mono ?_
 rintro e w5 ⟨rfl, hb5⟩
 have l5 := hb5.size
 replace hX4 := SlW.below hX4 hb5 (by omega)
 replace hB := bstep hB hB.size hb5
 clear hb5
 go_wp2_with fail
 refine (toEventS_any A l.length cap l _ (hl0.below hB) hn1).mono ?_
 rintro e w6 ⟨X6, d6, rfl, hX6, hb6⟩
 have l6 := hb6.size
 replace hX4 := SlW.below hX4 hb6 (by omega)
 replace hB := bstep hB hB.size hb6
 clear hb6
 go_wp2_with fail
 refine (eqEventS_same X4 X6 l.length d4 d6 l _ (EvsW.r hX4) (EvsW.r hX6) (by omega)).mono ?_
 rintro e w7 ⟨rfl, hb7⟩
 have l7 := hb7.size
 replace hX4 := SlW.below hX4 hb7 (by omega)
 replace hX6 := SlW.below hX6 hb7 (by omega)
 replace hB := bstep hB hB.size hb7
 clear hb7
 clear hX6
 go_wp2
 go_ret
 exact .mk rfl hB

set_option maxRecDepth 100000 in
set_option maxHeartbeats 4000000 in
theorem exactBusy_any (l : List Ev) (A : Option Addr) (n cap : Nat) (w : World) (hl0 : EvsR w A n l) (hn : n ≤ maxLen) :
  Calls Try.prog 6 #[.slice A n cap] w (RetBelow (.bool true) w) := by
 by_cases hbig : ¬ n ≤ 1048576
 ·
  go_enter Try.func6, Try.ntmps6
  go_wp2_with fail
  refine (szEventS_any A n cap 1048576 _ hn (by omega) (by omega)).mono ?_
  rintro e w1 ⟨rfl, hb1⟩
  rw [show szI 1048576 n = -1 by unfold szI; split <;> omega]
  go_wp2
  go_ret
  exact .mk rfl hb1
 have hn1 : n ≤ 1048576 := by omega
 clear hbig
 have hln := hl0.1
 obtain rfl : l.length = n := hln
 go_enter Try.func6, Try.ntmps6
 have hB := Below.refl w.heap.size w
 generalize hzz : szI 1048576 l.length = zz
 have hz0 : 0 ≤ zz := by rw [← hzz]; unfold szI; split <;> omega
 go_wp2_with fail
 refine (szEventS_any A l.length cap 1048576 _ hn (by omega) (by omega)).mono ?_
 rw [hzz]
 rintro e w1 ⟨rfl, hb1⟩
 have l1 := hb1.size
 replace hB := bstep hB hB.size hb1
 clear hb1
 go_wp2_with fail
 refine (toEventS_any A l.length cap l _ (hl0.below hB) hn1).mono ?_
 rintro e w2 ⟨X2, d2, rfl, hX2, hb2⟩
 have l2 := hb2.size
 replace hB := bstep hB hB.size hb2
 clear hb2
 go_wp2_with fail
 refine (sbusy_any l X2 l.length d2 _ (EvsW.r hX2) hn1).mono ?_
 rintro e w3 ⟨rfl, hb3⟩
 have l3 := hb3.size
 replace hX2 := SlW.below hX2 hb3 (by omega)
 replace hB := bstep hB hB.size hb3
 clear hb3
 clear hX2
 go_wp2_with fail
 refine (toEventS_any A l.length cap l _ (hl0.below hB) hn1).mono ?_
 rintro e w4 ⟨X4, d4, rfl, hX4, hb4⟩
 have l4 := hb4.size
 replace hB := bstep hB hB.size hb4
 clear hb4
 go_wp2_with fail
 refine (ibusy_any l X4 l.length d4 _ (EvsW.r hX4) hn1).mono ?_
 rintro e w5 ⟨rfl, hb5⟩
 have l5 := hb5.size
 replace hX4 := SlW.below hX4 hb5 (by omega)
 replace hB := bstep hB hB.size hb5
 clear hb5
 go_wp2_with fail
 refine (toEventS_any A l.length cap l _ (hl0.below hB) hn1).mono ?_
 rintro e w6 ⟨X6, d6, rfl, hX6, hb6⟩
 have l6 := hb6.size
 replace hX4 := SlW.below hX4 hb6 (by omega)
 replace hB := bstep hB hB.size hb6
 clear hb6
 go_wp2_with fail
 refine (eqEventS_same X4 X6 l.length d4 d6 l _ (EvsW.r hX4) (EvsW.r hX6) (by omega)).mono ?_
 rintro e w7 ⟨rfl, hb7⟩
 have l7 := hb7.size
 replace hX4 := SlW.below hX4 hb7 (by omega)
 replace hX6 := SlW.below hX6 hb7 (by omega)
 replace hB := bstep hB hB.size hb7
 clear hb7
 clear hX6
 go_wp2
 go_ret
 exact .mk rfl hB

end Go.Proofs.Ytghgfbncijfocaa
