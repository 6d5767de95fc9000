/-
  The walks of the laws on LineOk, LinePut and LineTake.
-/
import Derived.Test.YtkkfpmoniihciaaLinC
namespace Go.Proofs.Ytkkfpmoniihciaa
set_option linter.unusedSimpArgs false
set_option linter.unusedVariables false
open Go.RowKit Go.ChangeShapes Go.WideShapes Go.ChangeAt Go.Joins
set_option linter.unusedVariables false
attribute [local go_sem] OpUpon

attribute [local go_sem ↓] Go.wp_at_zero Go.wp_at_succ

set_option maxRecDepth 100000 in
set_option maxHeartbeats 4000000 in
theorem exactLineOk_any (l : List Int) (A : Option Addr) (n cap : Nat) (w : World) (hl0 : IntsR w A n l) (hn : n ≤ maxLen) :
    Calls Try.prog 5 #[.slice A n cap] w (RetBelow (.bool true) w) := by
  by_cases hbig : ¬ n ≤ 1048576
  · have hbg : (n : Int) > 1048576 := by omega
    go_enter Try.func5, Try.ntmps5
    go_wp2
    go_ret
    exact .mk rfl (Below.refl _ _)
  have hn1 : n ≤ 1048576 := by omega
  clear hbig
  have hln := hl0.1
  obtain rfl : l.length = n := hln
  go_enter Try.func5, Try.ntmps5
  have hB := Below.refl w.heap.size w
  have hbg : ¬ (l.length : Int) > 1048576 := by omega
  go_wp2_with fail
  refine (toInt64S_any A l.length cap l _ (hl0.below hB) hn1).mono ?_
  rintro e w1 ⟨X1, d1, rfl, hX1, hb1⟩
  have l1 := hb1.size
  replace hB := bstep hB hB.size hb1
  clear hb1
  go_wp2_with fail
  refine (slineOk_any l X1 l.length d1 _ (IntsW.r hX1) (by omega)).mono ?_
  rintro e w2 ⟨rfl, hb2⟩
  have l2 := hb2.size
  replace hX1 := SlW.below hX1 hb2 (by omega)
  replace hB := bstep hB hB.size hb2
  clear hb2
  clear hX1
  go_wp2_with fail
  refine (toInt64S_any A l.length cap l _ (hl0.below hB) hn1).mono ?_
  rintro e w3 ⟨X3, d3, rfl, hX3, hb3⟩
  have l3 := hb3.size
  replace hB := bstep hB hB.size hb3
  clear hb3
  go_wp2_with fail
  refine (ilineOk_any l X3 l.length d3 _ (IntsW.r hX3) (by omega)).mono ?_
  rintro e w4 ⟨rfl, hb4⟩
  have l4 := hb4.size
  replace hX3 := SlW.below hX3 hb4 (by omega)
  replace hB := bstep hB hB.size hb4
  clear hb4
  go_wp2_with fail
  refine (toInt64S_any A l.length cap l _ (hl0.below hB) hn1).mono ?_
  rintro e w5 ⟨X5, d5, rfl, hX5, hb5⟩
  have l5 := hb5.size
  replace hX3 := SlW.below hX3 hb5 (by omega)
  replace hB := bstep hB hB.size hb5
  clear hb5
  go_wp2_with fail
  refine (eqInt64S_same X3 X5 l.length d3 d5 l _ (IntsW.r hX3) (IntsW.r hX5) (by omega)).mono ?_
  rintro e w6 ⟨rfl, hb6⟩
  have l6 := hb6.size
  replace hX3 := SlW.below hX3 hb6 (by omega)
  replace hX5 := SlW.below hX5 hb6 (by omega)
  replace hB := bstep hB hB.size hb6
  clear hb6
  clear hX5
  go_wp2
  go_ret
  exact .mk rfl hB

theorem linePut_len (l : List Int) (v : Int) : (linePut l v).1.length ≤ l.length + 1 := by
  unfold linePut
  cases lineOk l
  · simp
  · cases valB v && !decide (l.length = 40)
    · simp
    · simp
theorem lineTake_len (l : List Int) : (lineTake l).1.length ≤ l.length + 1 := by
  unfold lineTake
  cases lineOk l
  · simp
  · cases l
    · simp
    · simp; omega

set_option maxRecDepth 100000 in
set_option maxHeartbeats 4000000 in
theorem exactLinePut_any (l : List Int) (v : Int) (A : Option Addr) (n cap : Nat) (w : World) (hl0 : IntsR w A n l) (hn : n ≤ maxLen) :
    Calls Try.prog 6 #[.slice A n cap, .int .i64 v] w (RetBelow (.bool true) w) := by
  by_cases hbig : ¬ n ≤ 1048576
  · have hbg : (n : Int) > 1048576 := by omega
    go_enter Try.func6, Try.ntmps6
    go_wp2
    go_ret
    exact .mk rfl (Below.refl _ _)
  have hn1 : n ≤ 1048576 := by omega
  clear hbig
  have hln := hl0.1
  obtain rfl : l.length = n := hln
  obtain ⟨V, b, hq⟩ : ∃ (V : List Int) (b : Bool), linePut l v = (V, b) := ⟨_, _, rfl⟩
  have hVn : V.length ≤ 1073741824 := by have h1 := linePut_len l v; rw [hq] at h1; simp only at h1; omega
  have HS : ∀ A c lo hi W, IntsW lo hi W A l.length c l → hi ≤ W.heap.size → Calls Try.prog 14 #[.slice A l.length c, .int .i64 v] W (fun e w' => ∃ A' c', e = .returned (.tuple #[.slice A' V.length c', .bool b]) ∧ IntsW W.heap.size w'.heap.size w' A' V.length c' V ∧ Below W.heap.size W w') := fun A c lo hi W h hh => by have h1 := slinePut_any l v A l.length c W (IntsW.ln h) hn1; rw [hq] at h1; exact h1
  have HP : ∀ A c lo hi W, IntsW lo hi W A l.length c l → hi ≤ W.heap.size → Calls Try.prog 11 #[.slice A l.length c, .int .i64 v] W (fun e w' => ∃ A' c', e = .returned (.tuple #[.slice A' V.length c', .bool b]) ∧ IntsW W.heap.size w'.heap.size w' A' V.length c' V ∧ Below W.heap.size W w') := fun A c lo hi W h hh => by have h1 := ilinePut_any l v A l.length c W (IntsW.ln h) hn1; rw [hq] at h1; exact h1
  clear hq
  replace HS := Lib.hid HS
  replace HP := Lib.hid HP
  go_enter Try.func6, Try.ntmps6
  have hB := Below.refl w.heap.size w
  have hbg : ¬ (l.length : Int) > 1048576 := by omega
  go_wp2_with fail
  refine (toInt64S_any A l.length cap l _ (hl0.below hB) hn1).mono ?_
  rintro e w1 ⟨X1, d1, rfl, hX1, hb1⟩
  have l1 := hb1.size
  replace hB := bstep hB hB.size hb1
  clear hb1
  go_wp2_with fail
  refine (HS.out X1 d1 _ _ _ hX1 (by omega)).mono ?_
  rintro e w2 ⟨W2, wc2, rfl, hV2, hb2⟩
  have l2 := hb2.size
  replace hX1 := SlW.below hX1 hb2 (by omega)
  replace hB := bstep hB hB.size hb2
  clear hb2
  clear hX1
  go_wp2_with fail
  refine (toInt64S_any A l.length cap l _ (hl0.below hB) hn1).mono ?_
  rintro e w3 ⟨X3, d3, rfl, hX3, hb3⟩
  have l3 := hb3.size
  replace hV2 := SlW.below hV2 hb3 (by omega)
  replace hB := bstep hB hB.size hb3
  clear hb3
  go_wp2_with fail
  refine (HP.out X3 d3 _ _ _ hX3 (by omega)).mono ?_
  rintro e w4 ⟨G4, gc4, rfl, hV4, hb4⟩
  have l4 := hb4.size
  replace hV2 := SlW.below hV2 hb4 (by omega)
  replace hX3 := SlW.below hX3 hb4 (by omega)
  replace hB := bstep hB hB.size hb4
  clear hb4
  go_wp2_with fail
  refine (eqInt64S_same G4 W2 V.length gc4 wc2 V _ (IntsW.r hV4) (IntsW.r hV2) hVn).mono ?_
  rintro e w5 ⟨rfl, hb5⟩
  have l5 := hb5.size
  replace hV2 := SlW.below hV2 hb5 (by omega)
  replace hX3 := SlW.below hX3 hb5 (by omega)
  replace hV4 := SlW.below hV4 hb5 (by omega)
  replace hB := bstep hB hB.size hb5
  clear hb5
  go_wp2_with fail
  refine (toInt64S_any A l.length cap l _ (hl0.below hB) hn1).mono ?_
  rintro e w6 ⟨X6, d6, rfl, hX6, hb6⟩
  have l6 := hb6.size
  replace hV2 := SlW.below hV2 hb6 (by omega)
  replace hX3 := SlW.below hX3 hb6 (by omega)
  replace hV4 := SlW.below hV4 hb6 (by omega)
  replace hB := bstep hB hB.size hb6
  clear hb6
  go_wp2_with fail
  refine (eqInt64S_same X3 X6 l.length d3 d6 l _ (IntsW.r hX3) (IntsW.r hX6) (by omega)).mono ?_
  rintro e w7 ⟨rfl, hb7⟩
  have l7 := hb7.size
  replace hV2 := SlW.below hV2 hb7 (by omega)
  replace hX3 := SlW.below hX3 hb7 (by omega)
  replace hV4 := SlW.below hV4 hb7 (by omega)
  replace hX6 := SlW.below hX6 hb7 (by omega)
  replace hB := bstep hB hB.size hb7
  clear hb7
  clear hX6
  go_wp2_with fail
  refine (markInt64S_w _ _ X3 l.length d3 l 1 _ hX3 (by omega) (by omega) (by omega)).mono ?_
  rintro e w8 ⟨rfl, hb8, hM8⟩
  have l8 := hb8.size
  replace hV2 := SlW.in_ hV2 hb8
  replace hV4 := SlW.in_ hV4 hb8
  replace hB := hB.trans (hb8.below (by omega) hB.size)
  clear hb8
  clear hM8 hX3
  have hz8 : 0 ≤ 1 + (l.length : Int) := by omega
  generalize 1 + (l.length : Int) = z8 at *
  go_wp2_with fail
  refine (eqInt64S_same G4 W2 V.length gc4 wc2 V _ (IntsW.r hV4) (IntsW.r hV2) hVn).mono ?_
  rintro e w9 ⟨rfl, hb9⟩
  have l9 := hb9.size
  replace hV2 := SlW.below hV2 hb9 (by omega)
  replace hV4 := SlW.below hV4 hb9 (by omega)
  replace hB := bstep hB hB.size hb9
  clear hb9
  go_wp2_with fail
  refine (markInt64S_w _ _ G4 V.length gc4 V 1 _ hV4 hVn (by omega) (by omega)).mono ?_
  rintro e w10 ⟨rfl, hb10, hM⟩
  have l10 := hb10.size
  replace hV2 := SlW.in_ hV2 hb10
  replace hB := hB.trans (hb10.below (by omega) hB.size)
  clear hb10
  clear hV4
  have hzm : 0 ≤ 1 + (V.length : Int) := by omega
  generalize hzq : 1 + (V.length : Int) = zm at *
  have HZQ := Lib.hid hzq; clear hzq
  go_wp2_with fail
  refine (heldInt64S_any G4 V.length gc4 1 _ (IntsW.r hM) hVn (by omega) (by omega)).mono ?_
  rw [HZQ.out]
  rintro e w11 ⟨rfl, hb11⟩
  have l11 := hb11.size
  replace hV2 := SlW.below hV2 hb11 (by omega)
  replace hM := SlW.below hM hb11 (by omega)
  replace hB := bstep hB hB.size hb11
  clear hb11
  go_wp2_with fail
  refine (toInt64S_any A l.length cap l _ (hl0.below hB) hn1).mono ?_
  rintro e w12 ⟨X12, d12, rfl, hX12, hb12⟩
  have l12 := hb12.size
  replace hV2 := SlW.below hV2 hb12 (by omega)
  replace hM := SlW.below hM hb12 (by omega)
  replace hB := bstep hB hB.size hb12
  clear hb12
  go_wp2_with fail
  refine (HP.out X12 d12 _ _ _ hX12 (by omega)).mono ?_
  rintro e w13 ⟨H13, hc13, rfl, hV13, hb13⟩
  have l13 := hb13.size
  replace hV2 := SlW.below hV2 hb13 (by omega)
  replace hM := SlW.below hM hb13 (by omega)
  replace hX12 := SlW.below hX12 hb13 (by omega)
  replace hB := bstep hB hB.size hb13
  clear hb13
  clear hX12
  go_wp2_with fail
  refine (eqInt64S_same H13 W2 V.length hc13 wc2 V _ (IntsW.r hV13) (IntsW.r hV2) hVn).mono ?_
  rintro e w14 ⟨rfl, hb14⟩
  have l14 := hb14.size
  replace hV2 := SlW.below hV2 hb14 (by omega)
  replace hM := SlW.below hM hb14 (by omega)
  replace hV13 := SlW.below hV13 hb14 (by omega)
  replace hB := bstep hB hB.size hb14
  clear hb14
  go_wp2_with fail
  refine (heldInt64S_any G4 V.length gc4 1 _ (IntsW.r hM) hVn (by omega) (by omega)).mono ?_
  rw [HZQ.out]
  rintro e w15 ⟨rfl, hb15⟩
  have l15 := hb15.size
  replace hV2 := SlW.below hV2 hb15 (by omega)
  replace hM := SlW.below hM hb15 (by omega)
  replace hV13 := SlW.below hV13 hb15 (by omega)
  replace hB := bstep hB hB.size hb15
  clear hb15
  go_wp2
  go_ret
  exact .mk rfl hB

set_option maxRecDepth 100000 in
set_option maxHeartbeats 4000000 in
theorem exactLineTake_any (l : List Int) (A : Option Addr) (n cap : Nat) (w : World) (hl0 : IntsR w A n l) (hn : n ≤ maxLen) :
    Calls Try.prog 7 #[.slice A n cap] w (RetBelow (.bool true) w) := by
  by_cases hbig : ¬ n ≤ 1048576
  · have hbg : (n : Int) > 1048576 := by omega
    go_enter Try.func7, Try.ntmps7
    go_wp2
    go_ret
    exact .mk rfl (Below.refl _ _)
  have hn1 : n ≤ 1048576 := by omega
  clear hbig
  have hln := hl0.1
  obtain rfl : l.length = n := hln
  obtain ⟨V, z, b, hq⟩ : ∃ (V : List Int) (z : Int) (b : Bool), lineTake l = (V, z, b) := ⟨_, _, _, rfl⟩
  have hVn : V.length ≤ 1073741824 := by have h1 := lineTake_len l; rw [hq] at h1; simp only at h1; omega
  have HS : ∀ A c lo hi W, IntsW lo hi W A l.length c l → hi ≤ W.heap.size → Calls Try.prog 18 #[.slice A l.length c] W (fun e w' => ∃ A' c', e = .returned (.tuple #[.slice A' V.length c', .int .i64 z, .bool b]) ∧ IntsW W.heap.size w'.heap.size w' A' V.length c' V ∧ Below W.heap.size W w') := fun A c lo hi W h hh => by have h1 := slineTake_any l A l.length c lo hi W h hh hn1; rw [hq] at h1; exact h1
  have HP : ∀ A c lo hi W, IntsW lo hi W A l.length c l → hi ≤ W.heap.size → Calls Try.prog 13 #[.slice A l.length c] W (fun e w' => ∃ A' c', e = .returned (.tuple #[.slice A' V.length c', .int .i64 z, .bool b]) ∧ IntsW W.heap.size w'.heap.size w' A' V.length c' V ∧ Below W.heap.size W w') := fun A c lo hi W h hh => by have h1 := ilineTake_any l A l.length c lo hi W h hh hn1; rw [hq] at h1; exact h1
  clear hq
  replace HS := Lib.hid HS
  replace HP := Lib.hid HP
  go_enter Try.func7, Try.ntmps7
  have hB := Below.refl w.heap.size w
  have hbg : ¬ (l.length : Int) > 1048576 := by omega
  go_wp2_with fail
  refine (toInt64S_any A l.length cap l _ (hl0.below hB) hn1).mono ?_
  rintro e w1 ⟨X1, d1, rfl, hX1, hb1⟩
  have l1 := hb1.size
  replace hB := bstep hB hB.size hb1
  clear hb1
  go_wp2_with fail
  refine (HS.out X1 d1 _ _ _ hX1 (by omega)).mono ?_
  rintro e w2 ⟨W2, wc2, rfl, hV2, hb2⟩
  have l2 := hb2.size
  replace hX1 := SlW.below hX1 hb2 (by omega)
  replace hB := bstep hB hB.size hb2
  clear hb2
  clear hX1
  go_wp2_with fail
  refine (toInt64S_any A l.length cap l _ (hl0.below hB) hn1).mono ?_
  rintro e w3 ⟨X3, d3, rfl, hX3, hb3⟩
  have l3 := hb3.size
  replace hV2 := SlW.below hV2 hb3 (by omega)
  replace hB := bstep hB hB.size hb3
  clear hb3
  go_wp2_with fail
  refine (HP.out X3 d3 _ _ _ hX3 (by omega)).mono ?_
  rintro e w4 ⟨G4, gc4, rfl, hV4, hb4⟩
  have l4 := hb4.size
  replace hV2 := SlW.below hV2 hb4 (by omega)
  replace hX3 := SlW.below hX3 hb4 (by omega)
  replace hB := bstep hB hB.size hb4
  clear hb4
  go_wp2_with fail
  refine (eqInt64S_same G4 W2 V.length gc4 wc2 V _ (IntsW.r hV4) (IntsW.r hV2) hVn).mono ?_
  rintro e w5 ⟨rfl, hb5⟩
  have l5 := hb5.size
  replace hV2 := SlW.below hV2 hb5 (by omega)
  replace hX3 := SlW.below hX3 hb5 (by omega)
  replace hV4 := SlW.below hV4 hb5 (by omega)
  replace hB := bstep hB hB.size hb5
  clear hb5
  go_wp2_with fail
  refine (toInt64S_any A l.length cap l _ (hl0.below hB) hn1).mono ?_
  rintro e w6 ⟨X6, d6, rfl, hX6, hb6⟩
  have l6 := hb6.size
  replace hV2 := SlW.below hV2 hb6 (by omega)
  replace hX3 := SlW.below hX3 hb6 (by omega)
  replace hV4 := SlW.below hV4 hb6 (by omega)
  replace hB := bstep hB hB.size hb6
  clear hb6
  go_wp2_with fail
  refine (eqInt64S_same X3 X6 l.length d3 d6 l _ (IntsW.r hX3) (IntsW.r hX6) (by omega)).mono ?_
  rintro e w7 ⟨rfl, hb7⟩
  have l7 := hb7.size
  replace hV2 := SlW.below hV2 hb7 (by omega)
  replace hX3 := SlW.below hX3 hb7 (by omega)
  replace hV4 := SlW.below hV4 hb7 (by omega)
  replace hX6 := SlW.below hX6 hb7 (by omega)
  replace hB := bstep hB hB.size hb7
  clear hb7
  clear hX6
  go_wp2_with fail
  refine (markInt64S_w _ _ X3 l.length d3 l 1 _ hX3 (by omega) (by omega) (by omega)).mono ?_
  rintro e w8 ⟨rfl, hb8, hM8⟩
  have l8 := hb8.size
  replace hV2 := SlW.in_ hV2 hb8
  replace hV4 := SlW.in_ hV4 hb8
  replace hB := hB.trans (hb8.below (by omega) hB.size)
  clear hb8
  clear hM8 hX3
  have hz8 : 0 ≤ 1 + (l.length : Int) := by omega
  generalize 1 + (l.length : Int) = z8 at *
  go_wp2_with fail
  refine (eqInt64S_same G4 W2 V.length gc4 wc2 V _ (IntsW.r hV4) (IntsW.r hV2) hVn).mono ?_
  rintro e w9 ⟨rfl, hb9⟩
  have l9 := hb9.size
  replace hV2 := SlW.below hV2 hb9 (by omega)
  replace hV4 := SlW.below hV4 hb9 (by omega)
  replace hB := bstep hB hB.size hb9
  clear hb9
  go_wp2_with fail
  refine (markInt64S_w _ _ G4 V.length gc4 V 1 _ hV4 hVn (by omega) (by omega)).mono ?_
  rintro e w10 ⟨rfl, hb10, hM⟩
  have l10 := hb10.size
  replace hV2 := SlW.in_ hV2 hb10
  replace hB := hB.trans (hb10.below (by omega) hB.size)
  clear hb10
  clear hV4
  have hzm : 0 ≤ 1 + (V.length : Int) := by omega
  generalize hzq : 1 + (V.length : Int) = zm at *
  have HZQ := Lib.hid hzq; clear hzq
  go_wp2_with fail
  refine (heldInt64S_any G4 V.length gc4 1 _ (IntsW.r hM) hVn (by omega) (by omega)).mono ?_
  rw [HZQ.out]
  rintro e w11 ⟨rfl, hb11⟩
  have l11 := hb11.size
  replace hV2 := SlW.below hV2 hb11 (by omega)
  replace hM := SlW.below hM hb11 (by omega)
  replace hB := bstep hB hB.size hb11
  clear hb11
  go_wp2_with fail
  refine (toInt64S_any A l.length cap l _ (hl0.below hB) hn1).mono ?_
  rintro e w12 ⟨X12, d12, rfl, hX12, hb12⟩
  have l12 := hb12.size
  replace hV2 := SlW.below hV2 hb12 (by omega)
  replace hM := SlW.below hM hb12 (by omega)
  replace hB := bstep hB hB.size hb12
  clear hb12
  go_wp2_with fail
  refine (HP.out X12 d12 _ _ _ hX12 (by omega)).mono ?_
  rintro e w13 ⟨H13, hc13, rfl, hV13, hb13⟩
  have l13 := hb13.size
  replace hV2 := SlW.below hV2 hb13 (by omega)
  replace hM := SlW.below hM hb13 (by omega)
  replace hX12 := SlW.below hX12 hb13 (by omega)
  replace hB := bstep hB hB.size hb13
  clear hb13
  clear hX12
  go_wp2_with fail
  refine (eqInt64S_same H13 W2 V.length hc13 wc2 V _ (IntsW.r hV13) (IntsW.r hV2) hVn).mono ?_
  rintro e w14 ⟨rfl, hb14⟩
  have l14 := hb14.size
  replace hV2 := SlW.below hV2 hb14 (by omega)
  replace hM := SlW.below hM hb14 (by omega)
  replace hV13 := SlW.below hV13 hb14 (by omega)
  replace hB := bstep hB hB.size hb14
  clear hb14
  go_wp2_with fail
  refine (heldInt64S_any G4 V.length gc4 1 _ (IntsW.r hM) hVn (by omega) (by omega)).mono ?_
  rw [HZQ.out]
  rintro e w15 ⟨rfl, hb15⟩
  have l15 := hb15.size
  replace hV2 := SlW.below hV2 hb15 (by omega)
  replace hM := SlW.below hM hb15 (by omega)
  replace hV13 := SlW.below hV13 hb15 (by omega)
  replace hB := bstep hB hB.size hb15
  clear hb15
  go_wp2
  go_ret
  exact .mk rfl hB

end Go.Proofs.Ytkkfpmoniihciaa
