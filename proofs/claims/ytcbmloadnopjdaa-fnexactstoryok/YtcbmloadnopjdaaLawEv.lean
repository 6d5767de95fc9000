/-
  The walks of the laws on StoryOk, Ahead, PutsIn and GotsIn.
-/
import Derived.Test.YtcbmloadnopjdaaEvV
namespace Go.Proofs.Ytcbmloadnopjdaa
set_option linter.unusedSimpArgs false
set_option linter.unusedVariables false
open Go.RowKit Go.ChangeShapes Go.WideShapes Go.ChangeAt Go.Joins
set_option linter.unusedVariables false
attribute [local go_sem] OpUpon

attribute [local go_sem ↓] Go.wp_at_zero Go.wp_at_succ

set_option maxRecDepth 100000 in
set_option maxHeartbeats 4000000 in
theorem exactStoryOk_any (l : List Ev) (A : Option Addr) (n cap : Nat) (w : World) (hl0 : EvsR w A n l) (hn : n ≤ maxLen) :
    Calls Try.prog 3 #[.slice A n cap] w (RetBelow (.bool true) w) := by
  by_cases hbig : ¬ n ≤ 1048576
  · go_enter Try.func3, Try.ntmps3
    go_wp2_with fail
    refine (szEventS_any A n cap 1048576 _ hn (by omega) (by omega)).mono ?_
    rintro e w1 ⟨rfl, hb1⟩
    rw [show szI 1048576 n = -1 by unfold szI; split <;> omega]
    go_wp2
    go_ret
    exact .mk rfl hb1
  have hn1 : n ≤ 1048576 := by omega
  clear hbig
  have hln := hl0.1
  obtain rfl : l.length = n := hln
  go_enter Try.func3, Try.ntmps3
  have hB := Below.refl w.heap.size w
  generalize hzz : szI 1048576 l.length = zz
  have hz0 : 0 ≤ zz := by rw [← hzz]; unfold szI; split <;> omega
  go_wp2_with fail
  refine (szEventS_any A l.length cap 1048576 _ hn (by omega) (by omega)).mono ?_
  rw [hzz]
  rintro e w1 ⟨rfl, hb1⟩
  have l1 := hb1.size
  replace hB := bstep hB hB.size hb1
  clear hb1
  go_wp2_with fail
  refine (toEventS_any A l.length cap l _ (hl0.below hB) hn1).mono ?_
  rintro e w2 ⟨X2, d2, rfl, hX2, hb2⟩
  have l2 := hb2.size
  replace hB := bstep hB hB.size hb2
  clear hb2
  go_wp2_with fail
  refine (sstory_any l X2 l.length d2 _ (EvsW.r hX2) hn1).mono ?_
  rintro e w3 ⟨rfl, hb3⟩
  have l3 := hb3.size
  replace hX2 := SlW.below hX2 hb3 (by omega)
  replace hB := bstep hB hB.size hb3
  clear hb3
  clear hX2
  go_wp2_with fail
  refine (toEventS_any A l.length cap l _ (hl0.below hB) hn1).mono ?_
  rintro e w4 ⟨X4, d4, rfl, hX4, hb4⟩
  have l4 := hb4.size
  replace hB := bstep hB hB.size hb4
  clear hb4
  go_wp2_with fail
  refine (istory_any l X4 l.length d4 _ (EvsW.r hX4) hn1).mono ?_
  rintro e w5 ⟨rfl, hb5⟩
  have l5 := hb5.size
  replace hX4 := SlW.below hX4 hb5 (by omega)
  replace hB := bstep hB hB.size hb5
  clear hb5
  go_wp2_with fail
  refine (toEventS_any A l.length cap l _ (hl0.below hB) hn1).mono ?_
  rintro e w6 ⟨X6, d6, rfl, hX6, hb6⟩
  have l6 := hb6.size
  replace hX4 := SlW.below hX4 hb6 (by omega)
  replace hB := bstep hB hB.size hb6
  clear hb6
  go_wp2_with fail
  refine (eqEventS_same X4 X6 l.length d4 d6 l _ (EvsW.r hX4) (EvsW.r hX6) (by omega)).mono ?_
  rintro e w7 ⟨rfl, hb7⟩
  have l7 := hb7.size
  replace hX4 := SlW.below hX4 hb7 (by omega)
  replace hX6 := SlW.below hX6 hb7 (by omega)
  replace hB := bstep hB hB.size hb7
  clear hb7
  clear hX6
  go_wp2
  go_ret
  exact .mk rfl hB

set_option maxRecDepth 100000 in
set_option maxHeartbeats 4000000 in
theorem exactPutsIn_any (l : List Ev) (A : Option Addr) (n cap : Nat) (w : World) (hl0 : EvsR w A n l) (hn : n ≤ maxLen) :
    Calls Try.prog 5 #[.slice A n cap] w (RetBelow (.bool true) w) := by
  by_cases hbig : ¬ n ≤ 1048576
  · go_enter Try.func5, Try.ntmps5
    go_wp2_with fail
    refine (szEventS_any A n cap 1048576 _ hn (by omega) (by omega)).mono ?_
    rintro e w1 ⟨rfl, hb1⟩
    rw [show szI 1048576 n = -1 by unfold szI; split <;> omega]
    go_wp2
    go_ret
    exact .mk rfl hb1
  have hn1 : n ≤ 1048576 := by omega
  clear hbig
  have hln := hl0.1
  obtain rfl : l.length = n := hln
  obtain ⟨V, hV0⟩ : ∃ V, valsOf true l = V := ⟨_, rfl⟩
  have hVn : V.length ≤ 1073741824 := by have := vals_small true (rfl : l.length = l.length) hn1; rw [hV0] at this; omega
  have HS : ∀ A c W, EvsR W A l.length l → Calls Try.prog 15 #[.slice A l.length c] W (RetInts V W) := fun A c W h => by rw [← hV0]; exact sputsIn_any l A _ c W h hn1
  have HP : ∀ A c W, EvsR W A l.length l → Calls Try.prog 16 #[.slice A l.length c] W (RetInts V W) := fun A c W h => by rw [← hV0]; exact iputsIn_any l A _ c W h hn1
  clear hV0
  replace HS := Lib.hid HS
  replace HP := Lib.hid HP
  go_enter Try.func5, Try.ntmps5
  have hB := Below.refl w.heap.size w
  generalize hzz : szI 1048576 l.length = zz
  have hz0 : 0 ≤ zz := by rw [← hzz]; unfold szI; split <;> omega
  go_wp2_with fail
  refine (szEventS_any A l.length cap 1048576 _ hn (by omega) (by omega)).mono ?_
  rw [hzz]
  rintro e w1 ⟨rfl, hb1⟩
  have l1 := hb1.size
  replace hB := bstep hB hB.size hb1
  clear hb1
  go_wp2_with fail
  refine (toEventS_any A l.length cap l _ (hl0.below hB) hn1).mono ?_
  rintro e w2 ⟨X2, d2, rfl, hX2, hb2⟩
  have l2 := hb2.size
  replace hB := bstep hB hB.size hb2
  clear hb2
  go_wp2_with fail
  refine (HS.out X2 d2 _ (EvsW.r hX2)).mono ?_
  rintro e w3 ⟨W3, wc3, rfl, hV3, hb3⟩
  have l3 := hb3.size
  replace hX2 := SlW.below hX2 hb3 (by omega)
  replace hB := bstep hB hB.size hb3
  clear hb3
  clear hX2
  go_wp2_with fail
  refine (toEventS_any A l.length cap l _ (hl0.below hB) hn1).mono ?_
  rintro e w4 ⟨X4, d4, rfl, hX4, hb4⟩
  have l4 := hb4.size
  replace hV3 := SlW.below hV3 hb4 (by omega)
  replace hB := bstep hB hB.size hb4
  clear hb4
  go_wp2_with fail
  refine (HP.out X4 d4 _ (EvsW.r hX4)).mono ?_
  rintro e w5 ⟨G5, gc5, rfl, hV5, hb5⟩
  have l5 := hb5.size
  replace hV3 := SlW.below hV3 hb5 (by omega)
  replace hX4 := SlW.below hX4 hb5 (by omega)
  replace hB := bstep hB hB.size hb5
  clear hb5
  go_wp2_with fail
  refine (eqInt64S_same G5 W3 V.length gc5 wc3 V _ (IntsW.r hV5) (IntsW.r hV3) hVn).mono ?_
  rintro e w6 ⟨rfl, hb6⟩
  have l6 := hb6.size
  replace hV3 := SlW.below hV3 hb6 (by omega)
  replace hX4 := SlW.below hX4 hb6 (by omega)
  replace hV5 := SlW.below hV5 hb6 (by omega)
  replace hB := bstep hB hB.size hb6
  clear hb6
  go_wp2_with fail
  refine (toEventS_any A l.length cap l _ (hl0.below hB) hn1).mono ?_
  rintro e w7 ⟨X7, d7, rfl, hX7, hb7⟩
  have l7 := hb7.size
  replace hV3 := SlW.below hV3 hb7 (by omega)
  replace hX4 := SlW.below hX4 hb7 (by omega)
  replace hV5 := SlW.below hV5 hb7 (by omega)
  replace hB := bstep hB hB.size hb7
  clear hb7
  go_wp2_with fail
  refine (eqEventS_same X4 X7 l.length d4 d7 l _ (EvsW.r hX4) (EvsW.r hX7) (by omega)).mono ?_
  rintro e w8 ⟨rfl, hb8⟩
  have l8 := hb8.size
  replace hV3 := SlW.below hV3 hb8 (by omega)
  replace hX4 := SlW.below hX4 hb8 (by omega)
  replace hV5 := SlW.below hV5 hb8 (by omega)
  replace hX7 := SlW.below hX7 hb8 (by omega)
  replace hB := bstep hB hB.size hb8
  clear hb8
  clear hX7
  go_wp2_with fail
  refine (markEventS_w _ _ X4 l.length d4 l 1 _ hX4 (by omega) (by omega) (by omega)).mono ?_
  rintro e w9 ⟨rfl, hb9, hM9⟩
  have l9 := hb9.size
  replace hV3 := SlW.in_ hV3 hb9
  replace hV5 := SlW.in_ hV5 hb9
  replace hB := hB.trans (hb9.below (by omega) hB.size)
  clear hb9
  clear hM9 hX4
  have hz9 : 0 ≤ 1 + 6 * (l.length : Int) := by omega
  generalize 1 + 6 * (l.length : Int) = z9 at *
  go_wp2_with fail
  refine (eqInt64S_same G5 W3 V.length gc5 wc3 V _ (IntsW.r hV5) (IntsW.r hV3) hVn).mono ?_
  rintro e w10 ⟨rfl, hb10⟩
  have l10 := hb10.size
  replace hV3 := SlW.below hV3 hb10 (by omega)
  replace hV5 := SlW.below hV5 hb10 (by omega)
  replace hB := bstep hB hB.size hb10
  clear hb10
  go_wp2_with fail
  refine (markInt64S_w _ _ G5 V.length gc5 V 1 _ hV5 hVn (by omega) (by omega)).mono ?_
  rintro e w11 ⟨rfl, hb11, hM⟩
  have l11 := hb11.size
  replace hV3 := SlW.in_ hV3 hb11
  replace hB := hB.trans (hb11.below (by omega) hB.size)
  clear hb11
  clear hV5
  have hzm : 0 ≤ 1 + (V.length : Int) := by omega
  generalize hzq : 1 + (V.length : Int) = zm at *
  have HZQ := Lib.hid hzq; clear hzq
  go_wp2_with fail
  refine (heldInt64S_any G5 V.length gc5 1 _ (IntsW.r hM) hVn (by omega) (by omega)).mono ?_
  rw [HZQ.out]
  rintro e w12 ⟨rfl, hb12⟩
  have l12 := hb12.size
  replace hV3 := SlW.below hV3 hb12 (by omega)
  replace hM := SlW.below hM hb12 (by omega)
  replace hB := bstep hB hB.size hb12
  clear hb12
  go_wp2_with fail
  refine (toEventS_any A l.length cap l _ (hl0.below hB) hn1).mono ?_
  rintro e w13 ⟨X13, d13, rfl, hX13, hb13⟩
  have l13 := hb13.size
  replace hV3 := SlW.below hV3 hb13 (by omega)
  replace hM := SlW.below hM hb13 (by omega)
  replace hB := bstep hB hB.size hb13
  clear hb13
  go_wp2_with fail
  refine (HP.out X13 d13 _ (EvsW.r hX13)).mono ?_
  rintro e w14 ⟨H14, hc14, rfl, hV14, hb14⟩
  have l14 := hb14.size
  replace hV3 := SlW.below hV3 hb14 (by omega)
  replace hM := SlW.below hM hb14 (by omega)
  replace hX13 := SlW.below hX13 hb14 (by omega)
  replace hB := bstep hB hB.size hb14
  clear hb14
  clear hX13
  go_wp2_with fail
  refine (eqInt64S_same H14 W3 V.length hc14 wc3 V _ (IntsW.r hV14) (IntsW.r hV3) hVn).mono ?_
  rintro e w15 ⟨rfl, hb15⟩
  have l15 := hb15.size
  replace hV3 := SlW.below hV3 hb15 (by omega)
  replace hM := SlW.below hM hb15 (by omega)
  replace hV14 := SlW.below hV14 hb15 (by omega)
  replace hB := bstep hB hB.size hb15
  clear hb15
  go_wp2_with fail
  refine (heldInt64S_any G5 V.length gc5 1 _ (IntsW.r hM) hVn (by omega) (by omega)).mono ?_
  rw [HZQ.out]
  rintro e w16 ⟨rfl, hb16⟩
  have l16 := hb16.size
  replace hV3 := SlW.below hV3 hb16 (by omega)
  replace hM := SlW.below hM hb16 (by omega)
  replace hV14 := SlW.below hV14 hb16 (by omega)
  replace hB := bstep hB hB.size hb16
  clear hb16
  go_wp2
  go_ret
  exact .mk rfl hB

set_option maxRecDepth 100000 in
set_option maxHeartbeats 4000000 in
theorem exactGotsIn_any (l : List Ev) (A : Option Addr) (n cap : Nat) (w : World) (hl0 : EvsR w A n l) (hn : n ≤ maxLen) :
    Calls Try.prog 6 #[.slice A n cap] w (RetBelow (.bool true) w) := by
  by_cases hbig : ¬ n ≤ 1048576
  · go_enter Try.func6, Try.ntmps6
    go_wp2_with fail
    refine (szEventS_any A n cap 1048576 _ hn (by omega) (by omega)).mono ?_
    rintro e w1 ⟨rfl, hb1⟩
    rw [show szI 1048576 n = -1 by unfold szI; split <;> omega]
    go_wp2
    go_ret
    exact .mk rfl hb1
  have hn1 : n ≤ 1048576 := by omega
  clear hbig
  have hln := hl0.1
  obtain rfl : l.length = n := hln
  obtain ⟨V, hV0⟩ : ∃ V, valsOf false l = V := ⟨_, rfl⟩
  have hVn : V.length ≤ 1073741824 := by have := vals_small false (rfl : l.length = l.length) hn1; rw [hV0] at this; omega
  have HS : ∀ A c W, EvsR W A l.length l → Calls Try.prog 21 #[.slice A l.length c] W (RetInts V W) := fun A c W h => by rw [← hV0]; exact sgotsIn_any l A _ c W h hn1
  have HP : ∀ A c W, EvsR W A l.length l → Calls Try.prog 22 #[.slice A l.length c] W (RetInts V W) := fun A c W h => by rw [← hV0]; exact igotsIn_any l A _ c W h hn1
  clear hV0
  replace HS := Lib.hid HS
  replace HP := Lib.hid HP
  go_enter Try.func6, Try.ntmps6
  have hB := Below.refl w.heap.size w
  generalize hzz : szI 1048576 l.length = zz
  have hz0 : 0 ≤ zz := by rw [← hzz]; unfold szI; split <;> omega
  go_wp2_with fail
  refine (szEventS_any A l.length cap 1048576 _ hn (by omega) (by omega)).mono ?_
  rw [hzz]
  rintro e w1 ⟨rfl, hb1⟩
  have l1 := hb1.size
  replace hB := bstep hB hB.size hb1
  clear hb1
  go_wp2_with fail
  refine (toEventS_any A l.length cap l _ (hl0.below hB) hn1).mono ?_
  rintro e w2 ⟨X2, d2, rfl, hX2, hb2⟩
  have l2 := hb2.size
  replace hB := bstep hB hB.size hb2
  clear hb2
  go_wp2_with fail
  refine (HS.out X2 d2 _ (EvsW.r hX2)).mono ?_
  rintro e w3 ⟨W3, wc3, rfl, hV3, hb3⟩
  have l3 := hb3.size
  replace hX2 := SlW.below hX2 hb3 (by omega)
  replace hB := bstep hB hB.size hb3
  clear hb3
  clear hX2
  go_wp2_with fail
  refine (toEventS_any A l.length cap l _ (hl0.below hB) hn1).mono ?_
  rintro e w4 ⟨X4, d4, rfl, hX4, hb4⟩
  have l4 := hb4.size
  replace hV3 := SlW.below hV3 hb4 (by omega)
  replace hB := bstep hB hB.size hb4
  clear hb4
  go_wp2_with fail
  refine (HP.out X4 d4 _ (EvsW.r hX4)).mono ?_
  rintro e w5 ⟨G5, gc5, rfl, hV5, hb5⟩
  have l5 := hb5.size
  replace hV3 := SlW.below hV3 hb5 (by omega)
  replace hX4 := SlW.below hX4 hb5 (by omega)
  replace hB := bstep hB hB.size hb5
  clear hb5
  go_wp2_with fail
  refine (eqInt64S_same G5 W3 V.length gc5 wc3 V _ (IntsW.r hV5) (IntsW.r hV3) hVn).mono ?_
  rintro e w6 ⟨rfl, hb6⟩
  have l6 := hb6.size
  replace hV3 := SlW.below hV3 hb6 (by omega)
  replace hX4 := SlW.below hX4 hb6 (by omega)
  replace hV5 := SlW.below hV5 hb6 (by omega)
  replace hB := bstep hB hB.size hb6
  clear hb6
  go_wp2_with fail
  refine (toEventS_any A l.length cap l _ (hl0.below hB) hn1).mono ?_
  rintro e w7 ⟨X7, d7, rfl, hX7, hb7⟩
  have l7 := hb7.size
  replace hV3 := SlW.below hV3 hb7 (by omega)
  replace hX4 := SlW.below hX4 hb7 (by omega)
  replace hV5 := SlW.below hV5 hb7 (by omega)
  replace hB := bstep hB hB.size hb7
  clear hb7
  go_wp2_with fail
  refine (eqEventS_same X4 X7 l.length d4 d7 l _ (EvsW.r hX4) (EvsW.r hX7) (by omega)).mono ?_
  rintro e w8 ⟨rfl, hb8⟩
  have l8 := hb8.size
  replace hV3 := SlW.below hV3 hb8 (by omega)
  replace hX4 := SlW.below hX4 hb8 (by omega)
  replace hV5 := SlW.below hV5 hb8 (by omega)
  replace hX7 := SlW.below hX7 hb8 (by omega)
  replace hB := bstep hB hB.size hb8
  clear hb8
  clear hX7
  go_wp2_with fail
  refine (markEventS_w _ _ X4 l.length d4 l 1 _ hX4 (by omega) (by omega) (by omega)).mono ?_
  rintro e w9 ⟨rfl, hb9, hM9⟩
  have l9 := hb9.size
  replace hV3 := SlW.in_ hV3 hb9
  replace hV5 := SlW.in_ hV5 hb9
  replace hB := hB.trans (hb9.below (by omega) hB.size)
  clear hb9
  clear hM9 hX4
  have hz9 : 0 ≤ 1 + 6 * (l.length : Int) := by omega
  generalize 1 + 6 * (l.length : Int) = z9 at *
  go_wp2_with fail
  refine (eqInt64S_same G5 W3 V.length gc5 wc3 V _ (IntsW.r hV5) (IntsW.r hV3) hVn).mono ?_
  rintro e w10 ⟨rfl, hb10⟩
  have l10 := hb10.size
  replace hV3 := SlW.below hV3 hb10 (by omega)
  replace hV5 := SlW.below hV5 hb10 (by omega)
  replace hB := bstep hB hB.size hb10
  clear hb10
  go_wp2_with fail
  refine (markInt64S_w _ _ G5 V.length gc5 V 1 _ hV5 hVn (by omega) (by omega)).mono ?_
  rintro e w11 ⟨rfl, hb11, hM⟩
  have l11 := hb11.size
  replace hV3 := SlW.in_ hV3 hb11
  replace hB := hB.trans (hb11.below (by omega) hB.size)
  clear hb11
  clear hV5
  have hzm : 0 ≤ 1 + (V.length : Int) := by omega
  generalize hzq : 1 + (V.length : Int) = zm at *
  have HZQ := Lib.hid hzq; clear hzq
  go_wp2_with fail
  refine (heldInt64S_any G5 V.length gc5 1 _ (IntsW.r hM) hVn (by omega) (by omega)).mono ?_
  rw [HZQ.out]
  rintro e w12 ⟨rfl, hb12⟩
  have l12 := hb12.size
  replace hV3 := SlW.below hV3 hb12 (by omega)
  replace hM := SlW.below hM hb12 (by omega)
  replace hB := bstep hB hB.size hb12
  clear hb12
  go_wp2_with fail
  refine (toEventS_any A l.length cap l _ (hl0.below hB) hn1).mono ?_
  rintro e w13 ⟨X13, d13, rfl, hX13, hb13⟩
  have l13 := hb13.size
  replace hV3 := SlW.below hV3 hb13 (by omega)
  replace hM := SlW.below hM hb13 (by omega)
  replace hB := bstep hB hB.size hb13
  clear hb13
  go_wp2_with fail
  refine (HP.out X13 d13 _ (EvsW.r hX13)).mono ?_
  rintro e w14 ⟨H14, hc14, rfl, hV14, hb14⟩
  have l14 := hb14.size
  replace hV3 := SlW.below hV3 hb14 (by omega)
  replace hM := SlW.below hM hb14 (by omega)
  replace hX13 := SlW.below hX13 hb14 (by omega)
  replace hB := bstep hB hB.size hb14
  clear hb14
  clear hX13
  go_wp2_with fail
  refine (eqInt64S_same H14 W3 V.length hc14 wc3 V _ (IntsW.r hV14) (IntsW.r hV3) hVn).mono ?_
  rintro e w15 ⟨rfl, hb15⟩
  have l15 := hb15.size
  replace hV3 := SlW.below hV3 hb15 (by omega)
  replace hM := SlW.below hM hb15 (by omega)
  replace hV14 := SlW.below hV14 hb15 (by omega)
  replace hB := bstep hB hB.size hb15
  clear hb15
  go_wp2_with fail
  refine (heldInt64S_any G5 V.length gc5 1 _ (IntsW.r hM) hVn (by omega) (by omega)).mono ?_
  rw [HZQ.out]
  rintro e w16 ⟨rfl, hb16⟩
  have l16 := hb16.size
  replace hV3 := SlW.below hV3 hb16 (by omega)
  replace hM := SlW.below hM hb16 (by omega)
  replace hV14 := SlW.below hV14 hb16 (by omega)
  replace hB := bstep hB hB.size hb16
  clear hb16
  go_wp2
  go_ret
  exact .mk rfl hB

end Go.Proofs.Ytcbmloadnopjdaa
