/-
  The walk of the law FnPlaces.
-/
import Derived.Test.YtdbnghlabhgigaaPlaceS
import Derived.Test.YtdbnghlabhgigaaDraw1
namespace Go.Proofs.Ytdbnghlabhgigaa
open Go.RowKit Go.ChangeShapes Go.WideShapes Go.ChangeAt Go.Joins
set_option linter.unusedVariables false
attribute [local go_sem] OpUpon

set_option maxHeartbeats 400000 in
theorem big_any (a0 : Option Addr) (len cap : Nat) (w : World) :
    Calls Try.prog 8 #[.slice a0 len cap] w fun e w' => e = .returned (.bool (decide (4096 < (len : Int)))) ∧ w = w' := by
  go_enter Try.func8, Try.ntmps8
  go_wp2
  go_ret
  exact ⟨rfl, rfl⟩

theorem ileftS_any (a c : Bool) (b d t n : Int) (w : World) (h0 : 0 ≤ t) (h1 : t < 9) (h2 : 2 ≤ n) (h3 : n < 6) :
    Calls Try.prog 13 #[.agg #[.bool a, .int .i64 b, .bool c, .int .i64 d], .int .i64 t, .int .i64 n] w (RetBelow (.agg #[.bool a, .int .i64 (t + n), .bool false, .int .i64 0]) w) := by
  have e : wrap64 (t + n) = t + n := by unfold wrap64; omega
  have := ileft_any a c b d t n w
  rwa [e] at this
theorem sleftS_any (a c : Bool) (b d t n : Int) (w : World) (h0 : 0 ≤ t) (h1 : t < 9) (h2 : 2 ≤ n) (h3 : n < 6) :
    Calls Try.prog 19 #[.agg #[.bool a, .int .i64 b, .bool c, .int .i64 d], .int .i64 t, .int .i64 n] w (RetBelow (.agg #[.bool a, .int .i64 (t + n), .bool false, .int .i64 0]) w) := by
  have e : wrap64 (t + n) = t + n := by unfold wrap64; omega
  have := sleft_any a c b d t n w
  rwa [e] at this

def fpyesR (_N : Nat) (a a2 a3 a4 c c2 c3 c4 : Bool) (b b2 b3 b4 d d2 d3 d4 t u n : Int) (j : Nat) (σ : Nat → Value) (w : World) : Prop :=
  match j with
  | 0 => σ 0 = .agg #[.bool a2, .int .i64 b2, .bool c2, .int .i64 d2]
  | 1 => σ 1 = .agg #[.bool a2, .int .i64 b2, .bool c2, .int .i64 d2]
  | 2 => σ 2 = .bool false
  | 3 => σ 3 = .bool false
  | 4 => σ 4 = .bool true
  | 5 => σ 5 = .bool true
  | 6 => σ 6 = .bool false
  | 7 => σ 7 = .bool false
  | 8 => σ 8 = .bool false
  | 9 => σ 9 = .agg #[.bool a, .int .i64 b, .bool c, .int .i64 d]
  | 10 => σ 10 = .bool (okB b c d)
  | 11 => σ 11 = .agg #[.bool a, .int .i64 b, .bool c, .int .i64 d]
  | 12 => σ 12 = .bool (okB b c d)
  | 13 => σ 13 = .bool false
  | 14 => σ 14 = .bool false
  | 15 => σ 15 = .bool false
  | 16 => σ 16 = .agg #[.bool a3, .int .i64 b3, .bool c3, .int .i64 d3]
  | 17 => σ 17 = .int .i64 t
  | 18 => σ 18 = .bool (!c3 && decide (b3 ≤ t))
  | 19 => σ 19 = .agg #[.bool a3, .int .i64 b3, .bool c3, .int .i64 d3]
  | 20 => σ 20 = .int .i64 t
  | 21 => σ 21 = .bool (!c3 && decide (b3 ≤ t))
  | 22 => σ 22 = .bool false
  | 23 => σ 23 = .bool false
  | 24 => σ 24 = .bool false
  | 25 => σ 25 = .agg #[.bool a4, .int .i64 (u + n), .bool false, .int .i64 0]
  | 26 => σ 26 = .agg #[.bool a4, .int .i64 b4, .bool c4, .int .i64 d4]
  | 27 => σ 27 = .int .i64 u
  | 28 => σ 28 = .int .i64 n
  | 29 => σ 29 = .agg #[.bool a4, .int .i64 (u + n), .bool false, .int .i64 0]
  | 30 => σ 30 = .bool false
  | 31 => σ 31 = .bool false
  | _ => True

def fpyesS (j : Nat) : List Nat := [[0], [1], [2], [3], [4], [5], [6], [7], [8], [9], [10], [11], [12], [13], [14], [15], [16], [17], [18], [19], [20], [21], [22], [23], [24], [25], [26], [27], [28], [29], [30], [31]].getD j [j]
def fpyesK (j : Nat) : Nat := [0, 0, 0, 0, 0, 0, 0, 0, 0, 0, 0, 0, 0, 0, 0, 0, 0, 0, 0, 0, 0, 0, 0, 0, 0, 0, 0, 0, 0, 0, 0, 0].getD j 0

def fpnoR (_N : Nat) (a a1 a2 a3 a4 c c1 c2 c3 c4 : Bool) (b b1 b2 b3 b4 d d1 d2 d3 d4 t u n : Int) (j : Nat) (σ : Nat → Value) (w : World) : Prop :=
  match j with
  | 0 => σ 0 = .agg #[.bool a, .int .i64 b, .bool c, .int .i64 d]
  | 1 => σ 1 = .agg #[.bool a, .int .i64 b, .bool c, .int .i64 d]
  | 2 => σ 2 = .bool false
  | 3 => σ 3 = .bool false
  | 4 => σ 4 = .bool false
  | 5 => σ 5 = .bool false
  | 6 => σ 6 = .bool false
  | 7 => σ 7 = .bool false
  | 8 => σ 8 = .bool false
  | 9 => σ 9 = .agg #[.bool a, .int .i64 b, .bool c, .int .i64 d]
  | 10 => σ 10 = .bool (okB b c d)
  | 11 => σ 11 = .agg #[.bool a, .int .i64 b, .bool c, .int .i64 d]
  | 12 => σ 12 = .bool (okB b c d)
  | 13 => σ 13 = .bool false
  | 14 => σ 14 = .bool false
  | 15 => σ 15 = .bool false
  | 16 => σ 16 = .agg #[.bool a3, .int .i64 b3, .bool c3, .int .i64 d3]
  | 17 => σ 17 = .int .i64 t
  | 18 => σ 18 = .bool (!c3 && decide (b3 ≤ t))
  | 19 => σ 19 = .agg #[.bool a3, .int .i64 b3, .bool c3, .int .i64 d3]
  | 20 => σ 20 = .int .i64 t
  | 21 => σ 21 = .bool (!c3 && decide (b3 ≤ t))
  | 22 => σ 22 = .bool false
  | 23 => σ 23 = .bool false
  | 24 => σ 24 = .bool false
  | 25 => σ 25 = .agg #[.bool a4, .int .i64 (u + n), .bool false, .int .i64 0]
  | 26 => σ 26 = .agg #[.bool a4, .int .i64 b4, .bool c4, .int .i64 d4]
  | 27 => σ 27 = .int .i64 u
  | 28 => σ 28 = .int .i64 n
  | 29 => σ 29 = .agg #[.bool a4, .int .i64 (u + n), .bool false, .int .i64 0]
  | 30 => σ 30 = .bool false
  | 31 => σ 31 = .bool false
  | _ => True

def fpnoS (j : Nat) : List Nat := [[0], [1], [2], [3], [4], [5], [6], [7], [8], [9], [10], [11], [12], [13], [14], [15], [16], [17], [18], [19], [20], [21], [22], [23], [24], [25], [26], [27], [28], [29], [30], [31]].getD j [j]
def fpnoK (j : Nat) : Nat := [0, 0, 0, 0, 0, 0, 0, 0, 0, 0, 0, 0, 0, 0, 0, 0, 0, 0, 0, 0, 0, 0, 0, 0, 0, 0, 0, 0, 0, 0, 0, 0].getD j 0

set_option maxRecDepth 100000 in
set_option maxHeartbeats 8000000 in
theorem fnPlaces_small (a0 : Option Addr) (len cap : Nat) (w : World) (hc : CodeOk w.heap.size w a0 len) (hl : ¬ 4096 < (len : Int)) :
    Calls Try.prog 3 #[.slice a0 len cap] w (RetBelow (.bool true) w) := by
  have hl' : decide (4096 < (len : Int)) = false := by simpa using hl
  go_enter Try.func3, Try.ntmps3
  go_wp2_with fail
  refine (big_any _ _ _ _).mono ?_
  rintro e w' ⟨rfl, rfl⟩
  go_wp2_with fail
  refine (drawSwapped_any _ _ _ _ hc).mono ?_
  rintro e w1 ⟨a, c, a1, c1, a2, c2, b, d, b1, d1, b2, d2, rfl, hB1⟩
  have hs1 := hB1.size
  generalize hg3 : w1.heap.size = g3 at *
  go_wp2_with fail
  by_cases h : a = a1 ∧ b = b1 ∧ c = c1 ∧ d = d1
  · obtain ⟨rfl, rfl, rfl, rfl⟩ := h
    refine calls_abs (fun W => Below w.heap.size w W ∧ BoxAt W g3 #[.bool a, .int .i64 b, .bool c, .int .i64 d] 25 ∧ BoxAt W (g3 + 1) #[.bool a, .int .i64 b, .bool c, .int .i64 d] 25 ∧ BoxAt W (g3 + 1 + 1) #[.bool a2, .int .i64 b2, .bool c2, .int .i64 d2] 25) ⟨((hB1.alloc (by omega) _).alloc (by simp; omega) _).alloc (by simp; omega) _, ?_, ?_, ?_⟩ ?_
    · rw [← hg3]; exact ((BoxAt.new _ _ _).alloc _).alloc _
    · rw [← hg3]; have := (BoxAt.new (w1.alloc (.cells #[.bool a, .int .i64 b, .bool c, .int .i64 d] 25)) #[.bool a, .int .i64 b, .bool c, .int .i64 d] 25).alloc (.cells #[.bool a2, .int .i64 b2, .bool c2, .int .i64 d2] 25); simpa using this
    · rw [← hg3]; have := (BoxAt.new ((w1.alloc (.cells #[.bool a, .int .i64 b, .bool c, .int .i64 d] 25)).alloc (.cells #[.bool a, .int .i64 b, .bool c, .int .i64 d] 25)) #[.bool a2, .int .i64 b2, .bool c2, .int .i64 d2] 25); simpa using this
    clear hB1 hs1
    rintro W2 ⟨hB2, x3, x4, x5⟩
    refine (iswapped_yes _ _ _ _ _ _ _ _ _).mono ?_
    rintro e w3 ⟨rfl, hb3⟩
    replace x3 := x3.below hb3 x3.lt
    replace x4 := x4.below hb3 x4.lt
    replace x5 := x5.below hb3 x5.lt
    replace hB2 := bstep hB2 hB2.size hb3
    clear hb3
    generalize hg6 : w3.heap.size = g6 at *
    have hs2 := hB2.size
    go_wp2_with fail
    refine calls_abs (fun W => Below w.heap.size w W ∧ BoxAt W g3 #[.bool a, .int .i64 b, .bool c, .int .i64 d] 25 ∧ BoxAt W (g3 + 1) #[.bool a, .int .i64 b, .bool c, .int .i64 d] 25 ∧ BoxAt W (g3 + 1 + 1) #[.bool a2, .int .i64 b2, .bool c2, .int .i64 d2] 25 ∧ BoxAt W g6 #[.bool a2, .int .i64 b2, .bool c2, .int .i64 d2] 25) ⟨hB2.alloc hB2.size _, x3.alloc _, x4.alloc _, x5.alloc _, by rw [← hg6]; exact BoxAt.new _ _ _⟩ ?_
    clear hB2 x3 x4 x5
    rintro W4 ⟨hB4, x3, x4, x5, x6⟩
    refine (drawMayPut_any _ _ _ _ ((hc.below hB4).le hB4.size)).mono ?_
    rintro e w5 ⟨a3, c3, b3, d3, t, rfl, ht0, ht1, hb5⟩
    replace x3 := x3.below hb5 x3.lt
    replace x4 := x4.below hb5 x4.lt
    replace x5 := x5.below hb5 x5.lt
    replace x6 := x6.below hb5 x6.lt
    replace hB4 := bstep hB4 hB4.size hb5
    clear hb5
    generalize hg8 : w5.heap.size = g8 at *
    go_wp2_with fail
    refine calls_abs (fun W => Below w.heap.size w W ∧ BoxAt W g3 #[.bool a, .int .i64 b, .bool c, .int .i64 d] 25 ∧ BoxAt W (g3 + 1) #[.bool a, .int .i64 b, .bool c, .int .i64 d] 25 ∧ BoxAt W (g3 + 1 + 1) #[.bool a2, .int .i64 b2, .bool c2, .int .i64 d2] 25 ∧ BoxAt W g6 #[.bool a2, .int .i64 b2, .bool c2, .int .i64 d2] 25 ∧ BoxAt W g8 #[.bool a3, .int .i64 b3, .bool c3, .int .i64 d3] 25) ⟨hB4.alloc hB4.size _, x3.alloc _, x4.alloc _, x5.alloc _, x6.alloc _, by rw [← hg8]; exact BoxAt.new _ _ _⟩ ?_
    clear hB4 x3 x4 x5 x6
    rintro W5 ⟨hB5, x3, x4, x5, x6, x8⟩
    refine (drawLeft_any _ _ _ _ ((hc.below hB5).le hB5.size)).mono ?_
    rintro e w6 ⟨a4, c4, b4, d4, u, n, rfl, hu0, hu1, hn0, hn1, hb6⟩
    replace x3 := x3.below hb6 x3.lt
    replace x4 := x4.below hb6 x4.lt
    replace x5 := x5.below hb6 x5.lt
    replace x6 := x6.below hb6 x6.lt
    replace x8 := x8.below hb6 x8.lt
    replace hB5 := bstep hB5 hB5.size hb6
    clear hb6
    generalize hg10 : w6.heap.size = g10 at *
    go_wp2_with fail
    refine calls_abs (fun W => Below w.heap.size w W ∧ BoxAt W g3 #[.bool a, .int .i64 b, .bool c, .int .i64 d] 25 ∧ BoxAt W (g3 + 1) #[.bool a, .int .i64 b, .bool c, .int .i64 d] 25 ∧ BoxAt W (g3 + 1 + 1) #[.bool a2, .int .i64 b2, .bool c2, .int .i64 d2] 25 ∧ BoxAt W g6 #[.bool a2, .int .i64 b2, .bool c2, .int .i64 d2] 25 ∧ BoxAt W g8 #[.bool a3, .int .i64 b3, .bool c3, .int .i64 d3] 25 ∧ BoxAt W g10 #[.bool a4, .int .i64 b4, .bool c4, .int .i64 d4] 25) ⟨hB5.alloc hB5.size _, x3.alloc _, x4.alloc _, x5.alloc _, x6.alloc _, x8.alloc _, by rw [← hg10]; exact BoxAt.new _ _ _⟩ ?_
    clear hB5 x3 x4 x5 x6 x8
    rintro W6 ⟨hB6, x3, x4, x5, x6, x8, x10⟩
    refine (ileftS_any _ _ _ _ _ _ _ hu0 hu1 hn0 hn1).mono ?_
    rintro e w7 ⟨rfl, hb7⟩
    replace x3 := x3.below hb7 x3.lt
    replace x4 := x4.below hb7 x4.lt
    replace x5 := x5.below hb7 x5.lt
    replace x6 := x6.below hb7 x6.lt
    replace x8 := x8.below hb7 x8.lt
    replace x10 := x10.below hb7 x10.lt
    replace hB6 := bstep hB6 hB6.size hb7
    clear hb7
    generalize hg13 : w7.heap.size = g13 at *
    have k3 := x3.cell
    have k4 := x4.cell
    have k5 := x5.cell
    have l3 : g3 < g13 := by have := x3.lt; omega
    have l4 : g3 + 1 < g13 := by have := x4.lt; omega
    have l5 : g3 + 1 + 1 < g13 := by have := x5.lt; omega
    go_wp2_with fail
    refine calls_abs (fun W => Below w.heap.size w W ∧ BoxAt W g3 #[.bool a, .int .i64 b, .bool c, .int .i64 d] 25 ∧ BoxAt W (g3 + 1) #[.bool a, .int .i64 b, .bool c, .int .i64 d] 25 ∧ BoxAt W (g3 + 1 + 1) #[.bool a2, .int .i64 b2, .bool c2, .int .i64 d2] 25 ∧ BoxAt W g6 #[.bool a2, .int .i64 b2, .bool c2, .int .i64 d2] 25 ∧ BoxAt W g8 #[.bool a3, .int .i64 b3, .bool c3, .int .i64 d3] 25 ∧ BoxAt W g10 #[.bool a4, .int .i64 b4, .bool c4, .int .i64 d4] 25 ∧ BoxAt W g13 #[.bool a4, .int .i64 (u + n), .bool false, .int .i64 0] 25) ⟨hB6.alloc hB6.size _, x3.alloc _, x4.alloc _, x5.alloc _, x6.alloc _, x8.alloc _, x10.alloc _, by rw [← hg13]; exact BoxAt.new _ _ _⟩ ?_
    clear hB6 x3 x4 x5 x6 x8 x10 k3 k4 k5
    rintro W7 ⟨hB7, x3, x4, x5, x6, x8, x10, x13⟩
    refine (sswapped_yes _ _ _ _ _ _ _ _ _).mono ?_
    rintro e w8 ⟨rfl, hb8⟩
    replace x3 := x3.below hb8 x3.lt
    replace x4 := x4.below hb8 x4.lt
    replace x5 := x5.below hb8 x5.lt
    replace x6 := x6.below hb8 x6.lt
    replace x8 := x8.below hb8 x8.lt
    replace x10 := x10.below hb8 x10.lt
    replace x13 := x13.below hb8 x13.lt
    replace hB7 := bstep hB7 hB7.size hb8
    clear hb8
    generalize hg14 : w8.heap.size = g14 at *
    go_upto_region 9 with fail
    refine wp_abs (fun W => Below w.heap.size w W ∧ BoxAt W g3 #[.bool a, .int .i64 b, .bool c, .int .i64 d] 25 ∧ BoxAt W (g3 + 1) #[.bool a, .int .i64 b, .bool c, .int .i64 d] 25 ∧ BoxAt W (g3 + 1 + 1) #[.bool a2, .int .i64 b2, .bool c2, .int .i64 d2] 25 ∧ BoxAt W g6 #[.bool a2, .int .i64 b2, .bool c2, .int .i64 d2] 25 ∧ BoxAt W g8 #[.bool a3, .int .i64 b3, .bool c3, .int .i64 d3] 25 ∧ BoxAt W g10 #[.bool a4, .int .i64 b4, .bool c4, .int .i64 d4] 25 ∧ BoxAt W g13 #[.bool a4, .int .i64 (u + n), .bool false, .int .i64 0] 25 ∧ BoxAt W g14 #[.bool a2, .int .i64 b2, .bool c2, .int .i64 d2] 25) ⟨hB7.alloc hB7.size _, x3.alloc _, x4.alloc _, x5.alloc _, x6.alloc _, x8.alloc _, x10.alloc _, x13.alloc _, by rw [← hg14]; exact BoxAt.new _ _ _⟩ ?_
    clear hB7 x3 x4 x5 x6 x8 x10 x13
    rintro W8 ⟨hB8, x3, x4, x5, x6, x8, x10, x13, x14⟩
    have l3 := x3.lt
    have l4 := x4.lt
    have l5 := x5.lt
    have l6 := x6.lt
    have l8 := x8.lt
    have l10 := x10.lt
    have l13 := x13.lt
    have l14 := x14.lt
    go_cut [84] (fun s84 W' => Below W8.heap.size W8 W' ∧ s84 = .bool false)
    case first =>
      refine wp_region_R (fun W' => Below W8.heap.size W8 W') (fpyesR W8.heap.size a a2 a3 a4 c c2 c3 c4 b b2 b3 b4 d d2 d3 d4 t u n) fpyesK fpyesS (by kernel_rfl) (by kernel_rfl) ?_ ?_ ?_
        (.grow rfl ?_ <| .grow rfl ?_ <| .grow rfl ?_ <| .grow rfl ?_ <| .grow rfl ?_ <| .grow rfl ?_ <| .grow rfl ?_ <| .grow rfl ?_ <| .grow rfl ?_ <| .grow rfl ?_ <| .grow rfl ?_ <| .grow rfl ?_ <| .grow rfl ?_ <| .grow rfl ?_ <| .grow rfl ?_ <| .grow rfl ?_ <| .grow rfl ?_ <| .grow rfl ?_ <| .grow rfl ?_ <| .grow rfl ?_ <| .grow rfl ?_ <| .grow rfl ?_ <| .grow rfl ?_ <| .grow rfl ?_ <| .grow rfl ?_ <| .grow rfl ?_ <| .grow rfl ?_ <| .grow rfl ?_ <| .grow rfl ?_ <| .grow rfl ?_ <| .grow rfl ?_ <| .grow rfl ?_ <| .nil) ?_
      · intro j σ τ w h hR
        match j, h, hR with
        | 0, h, hR => exact (h 0 (by decide)).symm.trans hR
        | 1, h, hR => exact (h 1 (by decide)).symm.trans hR
        | 2, h, hR => exact (h 2 (by decide)).symm.trans hR
        | 3, h, hR => exact (h 3 (by decide)).symm.trans hR
        | 4, h, hR => exact (h 4 (by decide)).symm.trans hR
        | 5, h, hR => exact (h 5 (by decide)).symm.trans hR
        | 6, h, hR => exact (h 6 (by decide)).symm.trans hR
        | 7, h, hR => exact (h 7 (by decide)).symm.trans hR
        | 8, h, hR => exact (h 8 (by decide)).symm.trans hR
        | 9, h, hR => exact (h 9 (by decide)).symm.trans hR
        | 10, h, hR => exact (h 10 (by decide)).symm.trans hR
        | 11, h, hR => exact (h 11 (by decide)).symm.trans hR
        | 12, h, hR => exact (h 12 (by decide)).symm.trans hR
        | 13, h, hR => exact (h 13 (by decide)).symm.trans hR
        | 14, h, hR => exact (h 14 (by decide)).symm.trans hR
        | 15, h, hR => exact (h 15 (by decide)).symm.trans hR
        | 16, h, hR => exact (h 16 (by decide)).symm.trans hR
        | 17, h, hR => exact (h 17 (by decide)).symm.trans hR
        | 18, h, hR => exact (h 18 (by decide)).symm.trans hR
        | 19, h, hR => exact (h 19 (by decide)).symm.trans hR
        | 20, h, hR => exact (h 20 (by decide)).symm.trans hR
        | 21, h, hR => exact (h 21 (by decide)).symm.trans hR
        | 22, h, hR => exact (h 22 (by decide)).symm.trans hR
        | 23, h, hR => exact (h 23 (by decide)).symm.trans hR
        | 24, h, hR => exact (h 24 (by decide)).symm.trans hR
        | 25, h, hR => exact (h 25 (by decide)).symm.trans hR
        | 26, h, hR => exact (h 26 (by decide)).symm.trans hR
        | 27, h, hR => exact (h 27 (by decide)).symm.trans hR
        | 28, h, hR => exact (h 28 (by decide)).symm.trans hR
        | 29, h, hR => exact (h 29 (by decide)).symm.trans hR
        | 30, h, hR => exact (h 30 (by decide)).symm.trans hR
        | 31, h, hR => exact (h 31 (by decide)).symm.trans hR
        | _ + 32, _, _ => exact trivial
      · intro j σ w w' hb hR
        match j, hR with
        | 0, hR => exact hR
        | 1, hR => exact hR
        | 2, hR => exact hR
        | 3, hR => exact hR
        | 4, hR => exact hR
        | 5, hR => exact hR
        | 6, hR => exact hR
        | 7, hR => exact hR
        | 8, hR => exact hR
        | 9, hR => exact hR
        | 10, hR => exact hR
        | 11, hR => exact hR
        | 12, hR => exact hR
        | 13, hR => exact hR
        | 14, hR => exact hR
        | 15, hR => exact hR
        | 16, hR => exact hR
        | 17, hR => exact hR
        | 18, hR => exact hR
        | 19, hR => exact hR
        | 20, hR => exact hR
        | 21, hR => exact hR
        | 22, hR => exact hR
        | 23, hR => exact hR
        | 24, hR => exact hR
        | 25, hR => exact hR
        | 26, hR => exact hR
        | 27, hR => exact hR
        | 28, hR => exact hR
        | 29, hR => exact hR
        | 30, hR => exact hR
        | 31, hR => exact hR
        | _ + 32, _ => exact trivial
      · exact Below.drew (Below.refl _ _)
      · -- 0: Op.load 25 t14
        intro σ W' hC hw
        clear hw
        have k_x14 := (x14.below hC (by omega)).cell
        refine OpGoes.step fun K hK => ?_
        unfold OpGoes
        go_simp
        exact hK _ _ ⟨hC, rfl, Below.refl _ _⟩
      · -- 1: Op.load 25 t6
        intro σ W' hC hw
        clear hw
        have k_x6 := (x6.below hC (by omega)).cell
        refine OpGoes.step fun K hK => ?_
        unfold OpGoes
        go_simp
        exact hK _ _ ⟨hC, rfl, Below.refl _ _⟩
      · -- 2: Op.binOp BinOp.neq 25 t53 t54 25
        intro σ W' hC hw
        have e0 : σ 0 = .agg #[.bool a2, .int .i64 b2, .bool c2, .int .i64 d2] := hw 0 (by kernel_rfl)
        have e1 : σ 1 = .agg #[.bool a2, .int .i64 b2, .bool c2, .int .i64 d2] := hw 1 (by kernel_rfl)
        clear hw
        refine OpGoes.step fun K hK => ?_
        unfold OpGoes
        go_simp
        exact hK _ _ ⟨hC, rfl, Below.refl _ _⟩
      · -- 3: Op.move t55
        intro σ W' hC hw
        have e2 : σ 2 = .bool false := hw 2 (by kernel_rfl)
        clear hw
        refine OpGoes.step fun K hK => ?_
        unfold OpGoes
        go_simp
        exact hK _ _ ⟨hC, rfl, Below.refl _ _⟩
      · -- 4: Op.move t15   [guarded: some (3, false)]
        intro σ W' hC hw
        have e3 : σ 3 = .bool false := hw 3 (by kernel_rfl)
        clear hw
        refine OpGoes.step fun K hK => ?_
        unfold OpGoes
        go_simp
        exact hK _ _ ⟨hC, rfl, Below.refl _ _⟩
      · -- 5: Op.move t7   [guarded: some (3, false)]
        intro σ W' hC hw
        have e3 : σ 3 = .bool false := hw 3 (by kernel_rfl)
        clear hw
        refine OpGoes.step fun K hK => ?_
        unfold OpGoes
        go_simp
        exact hK _ _ ⟨hC, rfl, Below.refl _ _⟩
      · -- 6: Op.binOp BinOp.neq 4 t57 t58 4   [guarded: some (3, false)]
        intro σ W' hC hw
        have e3 : σ 3 = .bool false := hw 3 (by kernel_rfl)
        have e4 : σ 4 = .bool true := hw 4 (by kernel_rfl)
        have e5 : σ 5 = .bool true := hw 5 (by kernel_rfl)
        clear hw
        refine OpGoes.step fun K hK => ?_
        unfold OpGoes
        go_simp
        exact hK _ _ ⟨hC, rfl, Below.refl _ _⟩
      · -- 7: Op.pick t56 (const (Value.bool true)) t59
        intro σ W' hC hw
        have e3 : σ 3 = .bool false := hw 3 (by kernel_rfl)
        have e6 : σ 6 = .bool false := hw 6 (by kernel_rfl)
        clear hw
        refine OpGoes.step fun K hK => ?_
        unfold OpGoes
        go_simp
        exact hK _ _ ⟨hC, rfl, Below.refl _ _⟩
      · -- 8: Op.move t60
        intro σ W' hC hw
        have e7 : σ 7 = .bool false := hw 7 (by kernel_rfl)
        clear hw
        refine OpGoes.step fun K hK => ?_
        unfold OpGoes
        go_simp
        exact hK _ _ ⟨hC, rfl, Below.refl _ _⟩
      · -- 9: Op.load 25 t3   [guarded: some (8, false)]
        intro σ W' hC hw
        have e8 : σ 8 = .bool false := hw 8 (by kernel_rfl)
        clear hw
        have k_x3 := (x3.below hC (by omega)).cell
        refine OpGoes.step fun K hK => ?_
        unfold OpGoes
        go_simp
        exact hK _ _ ⟨hC, rfl, Below.refl _ _⟩
      · -- 10: Op.call { value (Operand.func 15), args := #[t62], argTypes := #[25] }   [guarded: some (8, false)]
        intro σ W' hC hw
        have e8 : σ 8 = .bool false := hw 8 (by kernel_rfl)
        have e9 : σ 9 = .agg #[.bool a, .int .i64 b, .bool c, .int .i64 d] := hw 9 (by kernel_rfl)
        clear hw
        refine OpGoes.step fun K hK => ?_
        unfold OpGoes
        go_simp
        refine (iplaceOk_any _ _ _ _ _).mono ?_
        rintro e w1 ⟨rfl, hb1⟩
        exact ⟨_, rfl, hK _ _ ⟨bstep hC hC.size hb1, rfl, hb1⟩⟩
      · -- 11: Op.load 25 t3   [guarded: some (8, false)]
        intro σ W' hC hw
        have e8 : σ 8 = .bool false := hw 8 (by kernel_rfl)
        clear hw
        have k_x3 := (x3.below hC (by omega)).cell
        refine OpGoes.step fun K hK => ?_
        unfold OpGoes
        go_simp
        exact hK _ _ ⟨hC, rfl, Below.refl _ _⟩
      · -- 12: Op.call { value (Operand.func 16), args := #[t64], argTypes := #[25] }   [guarded: some (8, false)]
        intro σ W' hC hw
        have e8 : σ 8 = .bool false := hw 8 (by kernel_rfl)
        have e11 : σ 11 = .agg #[.bool a, .int .i64 b, .bool c, .int .i64 d] := hw 11 (by kernel_rfl)
        clear hw
        refine OpGoes.step fun K hK => ?_
        unfold OpGoes
        go_simp
        refine (splaceOk_any _ _ _ _ _).mono ?_
        rintro e w1 ⟨rfl, hb1⟩
        exact ⟨_, rfl, hK _ _ ⟨bstep hC hC.size hb1, rfl, hb1⟩⟩
      · -- 13: Op.binOp BinOp.neq 4 t63 t65 4   [guarded: some (8, false)]
        intro σ W' hC hw
        have e8 : σ 8 = .bool false := hw 8 (by kernel_rfl)
        have e10 : σ 10 = .bool (okB b c d) := hw 10 (by kernel_rfl)
        have e12 : σ 12 = .bool (okB b c d) := hw 12 (by kernel_rfl)
        clear hw
        refine OpGoes.step fun K hK => ?_
        unfold OpGoes
        go_simp
        exact hK _ _ ⟨hC, rfl, Below.refl _ _⟩
      · -- 14: Op.pick t61 (const (Value.bool true)) t66
        intro σ W' hC hw
        have e8 : σ 8 = .bool false := hw 8 (by kernel_rfl)
        have e13 : σ 13 = .bool false := hw 13 (by kernel_rfl)
        clear hw
        refine OpGoes.step fun K hK => ?_
        unfold OpGoes
        go_simp
        exact hK _ _ ⟨hC, rfl, Below.refl _ _⟩
      · -- 15: Op.move t67
        intro σ W' hC hw
        have e14 : σ 14 = .bool false := hw 14 (by kernel_rfl)
        clear hw
        refine OpGoes.step fun K hK => ?_
        unfold OpGoes
        go_simp
        exact hK _ _ ⟨hC, rfl, Below.refl _ _⟩
      · -- 16: Op.load 25 t8   [guarded: some (15, false)]
        intro σ W' hC hw
        have e15 : σ 15 = .bool false := hw 15 (by kernel_rfl)
        clear hw
        have k_x8 := (x8.below hC (by omega)).cell
        refine OpGoes.step fun K hK => ?_
        unfold OpGoes
        go_simp
        exact hK _ _ ⟨hC, rfl, Below.refl _ _⟩
      · -- 17: Op.move t9   [guarded: some (15, false)]
        intro σ W' hC hw
        have e15 : σ 15 = .bool false := hw 15 (by kernel_rfl)
        clear hw
        refine OpGoes.step fun K hK => ?_
        unfold OpGoes
        go_simp
        exact hK _ _ ⟨hC, rfl, Below.refl _ _⟩
      · -- 18: Op.call { value (Operand.func 17), args := #[t69, t70], argTypes := #[25, 2] }   [guarded: some (15, false)]
        intro σ W' hC hw
        have e15 : σ 15 = .bool false := hw 15 (by kernel_rfl)
        have e16 : σ 16 = .agg #[.bool a3, .int .i64 b3, .bool c3, .int .i64 d3] := hw 16 (by kernel_rfl)
        have e17 : σ 17 = .int .i64 t := hw 17 (by kernel_rfl)
        clear hw
        refine OpGoes.step fun K hK => ?_
        unfold OpGoes
        go_simp
        refine (imayPut_any _ _ _ _ _ _).mono ?_
        rintro e w1 ⟨rfl, hb1⟩
        exact ⟨_, rfl, hK _ _ ⟨bstep hC hC.size hb1, rfl, hb1⟩⟩
      · -- 19: Op.load 25 t8   [guarded: some (15, false)]
        intro σ W' hC hw
        have e15 : σ 15 = .bool false := hw 15 (by kernel_rfl)
        clear hw
        have k_x8 := (x8.below hC (by omega)).cell
        refine OpGoes.step fun K hK => ?_
        unfold OpGoes
        go_simp
        exact hK _ _ ⟨hC, rfl, Below.refl _ _⟩
      · -- 20: Op.move t9   [guarded: some (15, false)]
        intro σ W' hC hw
        have e15 : σ 15 = .bool false := hw 15 (by kernel_rfl)
        clear hw
        refine OpGoes.step fun K hK => ?_
        unfold OpGoes
        go_simp
        exact hK _ _ ⟨hC, rfl, Below.refl _ _⟩
      · -- 21: Op.call { value (Operand.func 18), args := #[t72, t73], argTypes := #[25, 2] }   [guarded: some (15, false)]
        intro σ W' hC hw
        have e15 : σ 15 = .bool false := hw 15 (by kernel_rfl)
        have e19 : σ 19 = .agg #[.bool a3, .int .i64 b3, .bool c3, .int .i64 d3] := hw 19 (by kernel_rfl)
        have e20 : σ 20 = .int .i64 t := hw 20 (by kernel_rfl)
        clear hw
        refine OpGoes.step fun K hK => ?_
        unfold OpGoes
        go_simp
        refine (smayPut_any _ _ _ _ _ _).mono ?_
        rintro e w1 ⟨rfl, hb1⟩
        exact ⟨_, rfl, hK _ _ ⟨bstep hC hC.size hb1, rfl, hb1⟩⟩
      · -- 22: Op.binOp BinOp.neq 4 t71 t74 4   [guarded: some (15, false)]
        intro σ W' hC hw
        have e15 : σ 15 = .bool false := hw 15 (by kernel_rfl)
        have e18 : σ 18 = .bool (!c3 && decide (b3 ≤ t)) := hw 18 (by kernel_rfl)
        have e21 : σ 21 = .bool (!c3 && decide (b3 ≤ t)) := hw 21 (by kernel_rfl)
        clear hw
        refine OpGoes.step fun K hK => ?_
        unfold OpGoes
        go_simp
        exact hK _ _ ⟨hC, rfl, Below.refl _ _⟩
      · -- 23: Op.pick t68 (const (Value.bool true)) t75
        intro σ W' hC hw
        have e15 : σ 15 = .bool false := hw 15 (by kernel_rfl)
        have e22 : σ 22 = .bool false := hw 22 (by kernel_rfl)
        clear hw
        refine OpGoes.step fun K hK => ?_
        unfold OpGoes
        go_simp
        exact hK _ _ ⟨hC, rfl, Below.refl _ _⟩
      · -- 24: Op.move t76
        intro σ W' hC hw
        have e23 : σ 23 = .bool false := hw 23 (by kernel_rfl)
        clear hw
        refine OpGoes.step fun K hK => ?_
        unfold OpGoes
        go_simp
        exact hK _ _ ⟨hC, rfl, Below.refl _ _⟩
      · -- 25: Op.load 25 t13   [guarded: some (24, false)]
        intro σ W' hC hw
        have e24 : σ 24 = .bool false := hw 24 (by kernel_rfl)
        clear hw
        have k_x13 := (x13.below hC (by omega)).cell
        refine OpGoes.step fun K hK => ?_
        unfold OpGoes
        go_simp
        exact hK _ _ ⟨hC, rfl, Below.refl _ _⟩
      · -- 26: Op.load 25 t10   [guarded: some (24, false)]
        intro σ W' hC hw
        have e24 : σ 24 = .bool false := hw 24 (by kernel_rfl)
        clear hw
        have k_x10 := (x10.below hC (by omega)).cell
        refine OpGoes.step fun K hK => ?_
        unfold OpGoes
        go_simp
        exact hK _ _ ⟨hC, rfl, Below.refl _ _⟩
      · -- 27: Op.move t11   [guarded: some (24, false)]
        intro σ W' hC hw
        have e24 : σ 24 = .bool false := hw 24 (by kernel_rfl)
        clear hw
        refine OpGoes.step fun K hK => ?_
        unfold OpGoes
        go_simp
        exact hK _ _ ⟨hC, rfl, Below.refl _ _⟩
      · -- 28: Op.move t12   [guarded: some (24, false)]
        intro σ W' hC hw
        have e24 : σ 24 = .bool false := hw 24 (by kernel_rfl)
        clear hw
        refine OpGoes.step fun K hK => ?_
        unfold OpGoes
        go_simp
        exact hK _ _ ⟨hC, rfl, Below.refl _ _⟩
      · -- 29: Op.call { value (Operand.func 19), args := #[t79, t80, t81], argTypes := #[25, 2, 2] }   [guarded: some (24, false)]
        intro σ W' hC hw
        have e24 : σ 24 = .bool false := hw 24 (by kernel_rfl)
        have e26 : σ 26 = .agg #[.bool a4, .int .i64 b4, .bool c4, .int .i64 d4] := hw 26 (by kernel_rfl)
        have e27 : σ 27 = .int .i64 u := hw 27 (by kernel_rfl)
        have e28 : σ 28 = .int .i64 n := hw 28 (by kernel_rfl)
        clear hw
        refine OpGoes.step fun K hK => ?_
        unfold OpGoes
        go_simp
        refine (sleftS_any _ _ _ _ _ _ _ hu0 hu1 hn0 hn1).mono ?_
        rintro e w1 ⟨rfl, hb1⟩
        exact ⟨_, rfl, hK _ _ ⟨bstep hC hC.size hb1, rfl, hb1⟩⟩
      · -- 30: Op.binOp BinOp.neq 25 t78 t82 25   [guarded: some (24, false)]
        intro σ W' hC hw
        have e24 : σ 24 = .bool false := hw 24 (by kernel_rfl)
        have e25 : σ 25 = .agg #[.bool a4, .int .i64 (u + n), .bool false, .int .i64 0] := hw 25 (by kernel_rfl)
        have e29 : σ 29 = .agg #[.bool a4, .int .i64 (u + n), .bool false, .int .i64 0] := hw 29 (by kernel_rfl)
        clear hw
        refine OpGoes.step fun K hK => ?_
        unfold OpGoes
        go_simp
        exact hK _ _ ⟨hC, rfl, Below.refl _ _⟩
      · -- 31: Op.pick t77 (const (Value.bool true)) t83
        intro σ W' hC hw
        have e24 : σ 24 = .bool false := hw 24 (by kernel_rfl)
        have e30 : σ 30 = .bool false := hw 30 (by kernel_rfl)
        clear hw
        refine OpGoes.step fun K hK => ?_
        unfold OpGoes
        go_simp
        exact hK _ _ ⟨hC, rfl, Below.refl _ _⟩
      · intro σ W' hC hR
        have e31 : σ 31 = _ := hR 31 (by decide)
        clear hR
        simp only [lexAll]
        go_simp
        go_step
        go_meet
        exact ⟨hC, rfl⟩
    case rest =>
      obtain ⟨hb9, rfl⟩ := hcut
      replace x3 := x3.below hb9 x3.lt
      replace x4 := x4.below hb9 x4.lt
      replace x5 := x5.below hb9 x5.lt
      replace x6 := x6.below hb9 x6.lt
      replace x8 := x8.below hb9 x8.lt
      replace x10 := x10.below hb9 x10.lt
      replace x13 := x13.below hb9 x13.lt
      replace hB8 := bstep hB8 hB8.size hb9
      clear hb9 l3 l4 l5 l6 l8 l10 l13 l14 x14
      have hd1 : decide (u + n ≤ u) = false := by simp; omega
      have hd2 : decide (u + n ≤ u + n) = true := by simp
      have k3 := x3.cell
      have k4 := x4.cell
      have k5 := x5.cell
      have k6 := x6.cell
      have k8 := x8.cell
      have k10 := x10.cell
      have k13 := x13.cell
      go_wp2_with fail
      refine (imayPut_any _ _ _ _ _ _).mono ?_
      rintro e w9 ⟨rfl, hb⟩
      clear k3 k4 k5 k6 k8 k10 k13
      replace x3 := x3.below hb x3.lt
      replace x4 := x4.below hb x4.lt
      replace x5 := x5.below hb x5.lt
      replace x6 := x6.below hb x6.lt
      replace x8 := x8.below hb x8.lt
      replace x10 := x10.below hb x10.lt
      replace x13 := x13.below hb x13.lt
      replace hB8 := bstep hB8 hB8.size hb
      clear hb
      have k3 := x3.cell
      have k4 := x4.cell
      have k5 := x5.cell
      have k6 := x6.cell
      have k8 := x8.cell
      have k10 := x10.cell
      have k13 := x13.cell
      go_wp2_with fail
      refine (imayPut_any _ _ _ _ _ _).mono ?_
      rintro e w10 ⟨rfl, hb⟩
      clear k3 k4 k5 k6 k8 k10 k13
      replace x3 := x3.below hb x3.lt
      replace x4 := x4.below hb x4.lt
      replace x5 := x5.below hb x5.lt
      replace x6 := x6.below hb x6.lt
      replace x8 := x8.below hb x8.lt
      replace x10 := x10.below hb x10.lt
      replace x13 := x13.below hb x13.lt
      replace hB8 := bstep hB8 hB8.size hb
      clear hb
      have k3 := x3.cell
      have k4 := x4.cell
      have k5 := x5.cell
      have k6 := x6.cell
      have k8 := x8.cell
      have k10 := x10.cell
      have k13 := x13.cell
      go_wp2_with fail
      refine (imayPut_any _ _ _ _ _ _).mono ?_
      rintro e w11 ⟨rfl, hb⟩
      clear k3 k4 k5 k6 k8 k10 k13
      replace x3 := x3.below hb x3.lt
      replace x4 := x4.below hb x4.lt
      replace x5 := x5.below hb x5.lt
      replace x6 := x6.below hb x6.lt
      replace x8 := x8.below hb x8.lt
      replace x10 := x10.below hb x10.lt
      replace x13 := x13.below hb x13.lt
      replace hB8 := bstep hB8 hB8.size hb
      clear hb
      have k3 := x3.cell
      have k4 := x4.cell
      have k5 := x5.cell
      have k6 := x6.cell
      have k8 := x8.cell
      have k10 := x10.cell
      have k13 := x13.cell
      cases hm : (!c3 && decide (b3 ≤ t))
      · go_wp2
        go_ret
        exact .mk (by simp) hB8
      · have hm' : (!c3 && decide (b3 ≤ t + 1)) = true := by
          simp at hm ⊢
          exact ⟨hm.1, by omega⟩
        go_wp2_with fail
        refine (imayPut_any _ _ _ _ _ _).mono ?_
        rintro e w12 ⟨rfl, hb⟩
        go_wp2
        go_ret
        exact .mk (by simp) (bstep hB8 hB8.size hb)
  · have H := Lib.hid h; clear h
    refine calls_abs (fun W => Below w.heap.size w W ∧ BoxAt W g3 #[.bool a, .int .i64 b, .bool c, .int .i64 d] 25 ∧ BoxAt W (g3 + 1) #[.bool a1, .int .i64 b1, .bool c1, .int .i64 d1] 25 ∧ BoxAt W (g3 + 1 + 1) #[.bool a2, .int .i64 b2, .bool c2, .int .i64 d2] 25) ⟨((hB1.alloc (by omega) _).alloc (by simp; omega) _).alloc (by simp; omega) _, ?_, ?_, ?_⟩ ?_
    · rw [← hg3]; exact ((BoxAt.new _ _ _).alloc _).alloc _
    · rw [← hg3]; have := (BoxAt.new (w1.alloc (.cells #[.bool a, .int .i64 b, .bool c, .int .i64 d] 25)) #[.bool a1, .int .i64 b1, .bool c1, .int .i64 d1] 25).alloc (.cells #[.bool a2, .int .i64 b2, .bool c2, .int .i64 d2] 25); simpa using this
    · rw [← hg3]; have := (BoxAt.new ((w1.alloc (.cells #[.bool a, .int .i64 b, .bool c, .int .i64 d] 25)).alloc (.cells #[.bool a1, .int .i64 b1, .bool c1, .int .i64 d1] 25)) #[.bool a2, .int .i64 b2, .bool c2, .int .i64 d2] 25); simpa using this
    clear hB1 hs1
    rintro W2 ⟨hB2, x3, x4, x5⟩
    refine (iswapped_no _ _ _ _ _ _ _ _ _ _ _ _ _ H.out).mono ?_
    rintro e w3 ⟨rfl, hb3⟩
    replace x3 := x3.below hb3 x3.lt
    replace x4 := x4.below hb3 x4.lt
    replace x5 := x5.below hb3 x5.lt
    replace hB2 := bstep hB2 hB2.size hb3
    clear hb3
    generalize hg6 : w3.heap.size = g6 at *
    have hs2 := hB2.size
    go_wp2_with fail
    refine calls_abs (fun W => Below w.heap.size w W ∧ BoxAt W g3 #[.bool a, .int .i64 b, .bool c, .int .i64 d] 25 ∧ BoxAt W (g3 + 1) #[.bool a1, .int .i64 b1, .bool c1, .int .i64 d1] 25 ∧ BoxAt W (g3 + 1 + 1) #[.bool a2, .int .i64 b2, .bool c2, .int .i64 d2] 25 ∧ BoxAt W g6 #[.bool a, .int .i64 b, .bool c, .int .i64 d] 25) ⟨hB2.alloc hB2.size _, x3.alloc _, x4.alloc _, x5.alloc _, by rw [← hg6]; exact BoxAt.new _ _ _⟩ ?_
    clear hB2 x3 x4 x5
    rintro W4 ⟨hB4, x3, x4, x5, x6⟩
    refine (drawMayPut_any _ _ _ _ ((hc.below hB4).le hB4.size)).mono ?_
    rintro e w5 ⟨a3, c3, b3, d3, t, rfl, ht0, ht1, hb5⟩
    replace x3 := x3.below hb5 x3.lt
    replace x4 := x4.below hb5 x4.lt
    replace x5 := x5.below hb5 x5.lt
    replace x6 := x6.below hb5 x6.lt
    replace hB4 := bstep hB4 hB4.size hb5
    clear hb5
    generalize hg8 : w5.heap.size = g8 at *
    go_wp2_with fail
    refine calls_abs (fun W => Below w.heap.size w W ∧ BoxAt W g3 #[.bool a, .int .i64 b, .bool c, .int .i64 d] 25 ∧ BoxAt W (g3 + 1) #[.bool a1, .int .i64 b1, .bool c1, .int .i64 d1] 25 ∧ BoxAt W (g3 + 1 + 1) #[.bool a2, .int .i64 b2, .bool c2, .int .i64 d2] 25 ∧ BoxAt W g6 #[.bool a, .int .i64 b, .bool c, .int .i64 d] 25 ∧ BoxAt W g8 #[.bool a3, .int .i64 b3, .bool c3, .int .i64 d3] 25) ⟨hB4.alloc hB4.size _, x3.alloc _, x4.alloc _, x5.alloc _, x6.alloc _, by rw [← hg8]; exact BoxAt.new _ _ _⟩ ?_
    clear hB4 x3 x4 x5 x6
    rintro W5 ⟨hB5, x3, x4, x5, x6, x8⟩
    refine (drawLeft_any _ _ _ _ ((hc.below hB5).le hB5.size)).mono ?_
    rintro e w6 ⟨a4, c4, b4, d4, u, n, rfl, hu0, hu1, hn0, hn1, hb6⟩
    replace x3 := x3.below hb6 x3.lt
    replace x4 := x4.below hb6 x4.lt
    replace x5 := x5.below hb6 x5.lt
    replace x6 := x6.below hb6 x6.lt
    replace x8 := x8.below hb6 x8.lt
    replace hB5 := bstep hB5 hB5.size hb6
    clear hb6
    generalize hg10 : w6.heap.size = g10 at *
    go_wp2_with fail
    refine calls_abs (fun W => Below w.heap.size w W ∧ BoxAt W g3 #[.bool a, .int .i64 b, .bool c, .int .i64 d] 25 ∧ BoxAt W (g3 + 1) #[.bool a1, .int .i64 b1, .bool c1, .int .i64 d1] 25 ∧ BoxAt W (g3 + 1 + 1) #[.bool a2, .int .i64 b2, .bool c2, .int .i64 d2] 25 ∧ BoxAt W g6 #[.bool a, .int .i64 b, .bool c, .int .i64 d] 25 ∧ BoxAt W g8 #[.bool a3, .int .i64 b3, .bool c3, .int .i64 d3] 25 ∧ BoxAt W g10 #[.bool a4, .int .i64 b4, .bool c4, .int .i64 d4] 25) ⟨hB5.alloc hB5.size _, x3.alloc _, x4.alloc _, x5.alloc _, x6.alloc _, x8.alloc _, by rw [← hg10]; exact BoxAt.new _ _ _⟩ ?_
    clear hB5 x3 x4 x5 x6 x8
    rintro W6 ⟨hB6, x3, x4, x5, x6, x8, x10⟩
    refine (ileftS_any _ _ _ _ _ _ _ hu0 hu1 hn0 hn1).mono ?_
    rintro e w7 ⟨rfl, hb7⟩
    replace x3 := x3.below hb7 x3.lt
    replace x4 := x4.below hb7 x4.lt
    replace x5 := x5.below hb7 x5.lt
    replace x6 := x6.below hb7 x6.lt
    replace x8 := x8.below hb7 x8.lt
    replace x10 := x10.below hb7 x10.lt
    replace hB6 := bstep hB6 hB6.size hb7
    clear hb7
    generalize hg13 : w7.heap.size = g13 at *
    have k3 := x3.cell
    have k4 := x4.cell
    have k5 := x5.cell
    have l3 : g3 < g13 := by have := x3.lt; omega
    have l4 : g3 + 1 < g13 := by have := x4.lt; omega
    have l5 : g3 + 1 + 1 < g13 := by have := x5.lt; omega
    go_wp2_with fail
    refine calls_abs (fun W => Below w.heap.size w W ∧ BoxAt W g3 #[.bool a, .int .i64 b, .bool c, .int .i64 d] 25 ∧ BoxAt W (g3 + 1) #[.bool a1, .int .i64 b1, .bool c1, .int .i64 d1] 25 ∧ BoxAt W (g3 + 1 + 1) #[.bool a2, .int .i64 b2, .bool c2, .int .i64 d2] 25 ∧ BoxAt W g6 #[.bool a, .int .i64 b, .bool c, .int .i64 d] 25 ∧ BoxAt W g8 #[.bool a3, .int .i64 b3, .bool c3, .int .i64 d3] 25 ∧ BoxAt W g10 #[.bool a4, .int .i64 b4, .bool c4, .int .i64 d4] 25 ∧ BoxAt W g13 #[.bool a4, .int .i64 (u + n), .bool false, .int .i64 0] 25) ⟨hB6.alloc hB6.size _, x3.alloc _, x4.alloc _, x5.alloc _, x6.alloc _, x8.alloc _, x10.alloc _, by rw [← hg13]; exact BoxAt.new _ _ _⟩ ?_
    clear hB6 x3 x4 x5 x6 x8 x10 k3 k4 k5
    rintro W7 ⟨hB7, x3, x4, x5, x6, x8, x10, x13⟩
    refine (sswapped_no _ _ _ _ _ _ _ _ _ _ _ _ _ H.out).mono ?_
    rintro e w8 ⟨rfl, hb8⟩
    replace x3 := x3.below hb8 x3.lt
    replace x4 := x4.below hb8 x4.lt
    replace x5 := x5.below hb8 x5.lt
    replace x6 := x6.below hb8 x6.lt
    replace x8 := x8.below hb8 x8.lt
    replace x10 := x10.below hb8 x10.lt
    replace x13 := x13.below hb8 x13.lt
    replace hB7 := bstep hB7 hB7.size hb8
    clear hb8
    generalize hg14 : w8.heap.size = g14 at *
    go_upto_region 9 with fail
    refine wp_abs (fun W => Below w.heap.size w W ∧ BoxAt W g3 #[.bool a, .int .i64 b, .bool c, .int .i64 d] 25 ∧ BoxAt W (g3 + 1) #[.bool a1, .int .i64 b1, .bool c1, .int .i64 d1] 25 ∧ BoxAt W (g3 + 1 + 1) #[.bool a2, .int .i64 b2, .bool c2, .int .i64 d2] 25 ∧ BoxAt W g6 #[.bool a, .int .i64 b, .bool c, .int .i64 d] 25 ∧ BoxAt W g8 #[.bool a3, .int .i64 b3, .bool c3, .int .i64 d3] 25 ∧ BoxAt W g10 #[.bool a4, .int .i64 b4, .bool c4, .int .i64 d4] 25 ∧ BoxAt W g13 #[.bool a4, .int .i64 (u + n), .bool false, .int .i64 0] 25 ∧ BoxAt W g14 #[.bool a, .int .i64 b, .bool c, .int .i64 d] 25) ⟨hB7.alloc hB7.size _, x3.alloc _, x4.alloc _, x5.alloc _, x6.alloc _, x8.alloc _, x10.alloc _, x13.alloc _, by rw [← hg14]; exact BoxAt.new _ _ _⟩ ?_
    clear hB7 x3 x4 x5 x6 x8 x10 x13
    rintro W8 ⟨hB8, x3, x4, x5, x6, x8, x10, x13, x14⟩
    have l3 := x3.lt
    have l4 := x4.lt
    have l5 := x5.lt
    have l6 := x6.lt
    have l8 := x8.lt
    have l10 := x10.lt
    have l13 := x13.lt
    have l14 := x14.lt
    go_cut [84] (fun s84 W' => Below W8.heap.size W8 W' ∧ s84 = .bool false)
    case first =>
      refine wp_region_R (fun W' => Below W8.heap.size W8 W') (fpnoR W8.heap.size a a1 a2 a3 a4 c c1 c2 c3 c4 b b1 b2 b3 b4 d d1 d2 d3 d4 t u n) fpnoK fpnoS (by kernel_rfl) (by kernel_rfl) ?_ ?_ ?_
        (.grow rfl ?_ <| .grow rfl ?_ <| .grow rfl ?_ <| .grow rfl ?_ <| .grow rfl ?_ <| .grow rfl ?_ <| .grow rfl ?_ <| .grow rfl ?_ <| .grow rfl ?_ <| .grow rfl ?_ <| .grow rfl ?_ <| .grow rfl ?_ <| .grow rfl ?_ <| .grow rfl ?_ <| .grow rfl ?_ <| .grow rfl ?_ <| .grow rfl ?_ <| .grow rfl ?_ <| .grow rfl ?_ <| .grow rfl ?_ <| .grow rfl ?_ <| .grow rfl ?_ <| .grow rfl ?_ <| .grow rfl ?_ <| .grow rfl ?_ <| .grow rfl ?_ <| .grow rfl ?_ <| .grow rfl ?_ <| .grow rfl ?_ <| .grow rfl ?_ <| .grow rfl ?_ <| .grow rfl ?_ <| .nil) ?_
      · intro j σ τ w h hR
        match j, h, hR with
        | 0, h, hR => exact (h 0 (by decide)).symm.trans hR
        | 1, h, hR => exact (h 1 (by decide)).symm.trans hR
        | 2, h, hR => exact (h 2 (by decide)).symm.trans hR
        | 3, h, hR => exact (h 3 (by decide)).symm.trans hR
        | 4, h, hR => exact (h 4 (by decide)).symm.trans hR
        | 5, h, hR => exact (h 5 (by decide)).symm.trans hR
        | 6, h, hR => exact (h 6 (by decide)).symm.trans hR
        | 7, h, hR => exact (h 7 (by decide)).symm.trans hR
        | 8, h, hR => exact (h 8 (by decide)).symm.trans hR
        | 9, h, hR => exact (h 9 (by decide)).symm.trans hR
        | 10, h, hR => exact (h 10 (by decide)).symm.trans hR
        | 11, h, hR => exact (h 11 (by decide)).symm.trans hR
        | 12, h, hR => exact (h 12 (by decide)).symm.trans hR
        | 13, h, hR => exact (h 13 (by decide)).symm.trans hR
        | 14, h, hR => exact (h 14 (by decide)).symm.trans hR
        | 15, h, hR => exact (h 15 (by decide)).symm.trans hR
        | 16, h, hR => exact (h 16 (by decide)).symm.trans hR
        | 17, h, hR => exact (h 17 (by decide)).symm.trans hR
        | 18, h, hR => exact (h 18 (by decide)).symm.trans hR
        | 19, h, hR => exact (h 19 (by decide)).symm.trans hR
        | 20, h, hR => exact (h 20 (by decide)).symm.trans hR
        | 21, h, hR => exact (h 21 (by decide)).symm.trans hR
        | 22, h, hR => exact (h 22 (by decide)).symm.trans hR
        | 23, h, hR => exact (h 23 (by decide)).symm.trans hR
        | 24, h, hR => exact (h 24 (by decide)).symm.trans hR
        | 25, h, hR => exact (h 25 (by decide)).symm.trans hR
        | 26, h, hR => exact (h 26 (by decide)).symm.trans hR
        | 27, h, hR => exact (h 27 (by decide)).symm.trans hR
        | 28, h, hR => exact (h 28 (by decide)).symm.trans hR
        | 29, h, hR => exact (h 29 (by decide)).symm.trans hR
        | 30, h, hR => exact (h 30 (by decide)).symm.trans hR
        | 31, h, hR => exact (h 31 (by decide)).symm.trans hR
        | _ + 32, _, _ => exact trivial
      · intro j σ w w' hb hR
        match j, hR with
        | 0, hR => exact hR
        | 1, hR => exact hR
        | 2, hR => exact hR
        | 3, hR => exact hR
        | 4, hR => exact hR
        | 5, hR => exact hR
        | 6, hR => exact hR
        | 7, hR => exact hR
        | 8, hR => exact hR
        | 9, hR => exact hR
        | 10, hR => exact hR
        | 11, hR => exact hR
        | 12, hR => exact hR
        | 13, hR => exact hR
        | 14, hR => exact hR
        | 15, hR => exact hR
        | 16, hR => exact hR
        | 17, hR => exact hR
        | 18, hR => exact hR
        | 19, hR => exact hR
        | 20, hR => exact hR
        | 21, hR => exact hR
        | 22, hR => exact hR
        | 23, hR => exact hR
        | 24, hR => exact hR
        | 25, hR => exact hR
        | 26, hR => exact hR
        | 27, hR => exact hR
        | 28, hR => exact hR
        | 29, hR => exact hR
        | 30, hR => exact hR
        | 31, hR => exact hR
        | _ + 32, _ => exact trivial
      · exact Below.drew (Below.refl _ _)
      · -- 0: Op.load 25 t14
        intro σ W' hC hw
        clear hw
        have k_x14 := (x14.below hC (by omega)).cell
        refine OpGoes.step fun K hK => ?_
        unfold OpGoes
        go_simp
        exact hK _ _ ⟨hC, rfl, Below.refl _ _⟩
      · -- 1: Op.load 25 t6
        intro σ W' hC hw
        clear hw
        have k_x6 := (x6.below hC (by omega)).cell
        refine OpGoes.step fun K hK => ?_
        unfold OpGoes
        go_simp
        exact hK _ _ ⟨hC, rfl, Below.refl _ _⟩
      · -- 2: Op.binOp BinOp.neq 25 t53 t54 25
        intro σ W' hC hw
        have e0 : σ 0 = .agg #[.bool a, .int .i64 b, .bool c, .int .i64 d] := hw 0 (by kernel_rfl)
        have e1 : σ 1 = .agg #[.bool a, .int .i64 b, .bool c, .int .i64 d] := hw 1 (by kernel_rfl)
        clear hw
        refine OpGoes.step fun K hK => ?_
        unfold OpGoes
        go_simp
        exact hK _ _ ⟨hC, rfl, Below.refl _ _⟩
      · -- 3: Op.move t55
        intro σ W' hC hw
        have e2 : σ 2 = .bool false := hw 2 (by kernel_rfl)
        clear hw
        refine OpGoes.step fun K hK => ?_
        unfold OpGoes
        go_simp
        exact hK _ _ ⟨hC, rfl, Below.refl _ _⟩
      · -- 4: Op.move t15   [guarded: some (3, false)]
        intro σ W' hC hw
        have e3 : σ 3 = .bool false := hw 3 (by kernel_rfl)
        clear hw
        refine OpGoes.step fun K hK => ?_
        unfold OpGoes
        go_simp
        exact hK _ _ ⟨hC, rfl, Below.refl _ _⟩
      · -- 5: Op.move t7   [guarded: some (3, false)]
        intro σ W' hC hw
        have e3 : σ 3 = .bool false := hw 3 (by kernel_rfl)
        clear hw
        refine OpGoes.step fun K hK => ?_
        unfold OpGoes
        go_simp
        exact hK _ _ ⟨hC, rfl, Below.refl _ _⟩
      · -- 6: Op.binOp BinOp.neq 4 t57 t58 4   [guarded: some (3, false)]
        intro σ W' hC hw
        have e3 : σ 3 = .bool false := hw 3 (by kernel_rfl)
        have e4 : σ 4 = .bool false := hw 4 (by kernel_rfl)
        have e5 : σ 5 = .bool false := hw 5 (by kernel_rfl)
        clear hw
        refine OpGoes.step fun K hK => ?_
        unfold OpGoes
        go_simp
        exact hK _ _ ⟨hC, rfl, Below.refl _ _⟩
      · -- 7: Op.pick t56 (const (Value.bool true)) t59
        intro σ W' hC hw
        have e3 : σ 3 = .bool false := hw 3 (by kernel_rfl)
        have e6 : σ 6 = .bool false := hw 6 (by kernel_rfl)
        clear hw
        refine OpGoes.step fun K hK => ?_
        unfold OpGoes
        go_simp
        exact hK _ _ ⟨hC, rfl, Below.refl _ _⟩
      · -- 8: Op.move t60
        intro σ W' hC hw
        have e7 : σ 7 = .bool false := hw 7 (by kernel_rfl)
        clear hw
        refine OpGoes.step fun K hK => ?_
        unfold OpGoes
        go_simp
        exact hK _ _ ⟨hC, rfl, Below.refl _ _⟩
      · -- 9: Op.load 25 t3   [guarded: some (8, false)]
        intro σ W' hC hw
        have e8 : σ 8 = .bool false := hw 8 (by kernel_rfl)
        clear hw
        have k_x3 := (x3.below hC (by omega)).cell
        refine OpGoes.step fun K hK => ?_
        unfold OpGoes
        go_simp
        exact hK _ _ ⟨hC, rfl, Below.refl _ _⟩
      · -- 10: Op.call { value (Operand.func 15), args := #[t62], argTypes := #[25] }   [guarded: some (8, false)]
        intro σ W' hC hw
        have e8 : σ 8 = .bool false := hw 8 (by kernel_rfl)
        have e9 : σ 9 = .agg #[.bool a, .int .i64 b, .bool c, .int .i64 d] := hw 9 (by kernel_rfl)
        clear hw
        refine OpGoes.step fun K hK => ?_
        unfold OpGoes
        go_simp
        refine (iplaceOk_any _ _ _ _ _).mono ?_
        rintro e w1 ⟨rfl, hb1⟩
        exact ⟨_, rfl, hK _ _ ⟨bstep hC hC.size hb1, rfl, hb1⟩⟩
      · -- 11: Op.load 25 t3   [guarded: some (8, false)]
        intro σ W' hC hw
        have e8 : σ 8 = .bool false := hw 8 (by kernel_rfl)
        clear hw
        have k_x3 := (x3.below hC (by omega)).cell
        refine OpGoes.step fun K hK => ?_
        unfold OpGoes
        go_simp
        exact hK _ _ ⟨hC, rfl, Below.refl _ _⟩
      · -- 12: Op.call { value (Operand.func 16), args := #[t64], argTypes := #[25] }   [guarded: some (8, false)]
        intro σ W' hC hw
        have e8 : σ 8 = .bool false := hw 8 (by kernel_rfl)
        have e11 : σ 11 = .agg #[.bool a, .int .i64 b, .bool c, .int .i64 d] := hw 11 (by kernel_rfl)
        clear hw
        refine OpGoes.step fun K hK => ?_
        unfold OpGoes
        go_simp
        refine (splaceOk_any _ _ _ _ _).mono ?_
        rintro e w1 ⟨rfl, hb1⟩
        exact ⟨_, rfl, hK _ _ ⟨bstep hC hC.size hb1, rfl, hb1⟩⟩
      · -- 13: Op.binOp BinOp.neq 4 t63 t65 4   [guarded: some (8, false)]
        intro σ W' hC hw
        have e8 : σ 8 = .bool false := hw 8 (by kernel_rfl)
        have e10 : σ 10 = .bool (okB b c d) := hw 10 (by kernel_rfl)
        have e12 : σ 12 = .bool (okB b c d) := hw 12 (by kernel_rfl)
        clear hw
        refine OpGoes.step fun K hK => ?_
        unfold OpGoes
        go_simp
        exact hK _ _ ⟨hC, rfl, Below.refl _ _⟩
      · -- 14: Op.pick t61 (const (Value.bool true)) t66
        intro σ W' hC hw
        have e8 : σ 8 = .bool false := hw 8 (by kernel_rfl)
        have e13 : σ 13 = .bool false := hw 13 (by kernel_rfl)
        clear hw
        refine OpGoes.step fun K hK => ?_
        unfold OpGoes
        go_simp
        exact hK _ _ ⟨hC, rfl, Below.refl _ _⟩
      · -- 15: Op.move t67
        intro σ W' hC hw
        have e14 : σ 14 = .bool false := hw 14 (by kernel_rfl)
        clear hw
        refine OpGoes.step fun K hK => ?_
        unfold OpGoes
        go_simp
        exact hK _ _ ⟨hC, rfl, Below.refl _ _⟩
      · -- 16: Op.load 25 t8   [guarded: some (15, false)]
        intro σ W' hC hw
        have e15 : σ 15 = .bool false := hw 15 (by kernel_rfl)
        clear hw
        have k_x8 := (x8.below hC (by omega)).cell
        refine OpGoes.step fun K hK => ?_
        unfold OpGoes
        go_simp
        exact hK _ _ ⟨hC, rfl, Below.refl _ _⟩
      · -- 17: Op.move t9   [guarded: some (15, false)]
        intro σ W' hC hw
        have e15 : σ 15 = .bool false := hw 15 (by kernel_rfl)
        clear hw
        refine OpGoes.step fun K hK => ?_
        unfold OpGoes
        go_simp
        exact hK _ _ ⟨hC, rfl, Below.refl _ _⟩
      · -- 18: Op.call { value (Operand.func 17), args := #[t69, t70], argTypes := #[25, 2] }   [guarded: some (15, false)]
        intro σ W' hC hw
        have e15 : σ 15 = .bool false := hw 15 (by kernel_rfl)
        have e16 : σ 16 = .agg #[.bool a3, .int .i64 b3, .bool c3, .int .i64 d3] := hw 16 (by kernel_rfl)
        have e17 : σ 17 = .int .i64 t := hw 17 (by kernel_rfl)
        clear hw
        refine OpGoes.step fun K hK => ?_
        unfold OpGoes
        go_simp
        refine (imayPut_any _ _ _ _ _ _).mono ?_
        rintro e w1 ⟨rfl, hb1⟩
        exact ⟨_, rfl, hK _ _ ⟨bstep hC hC.size hb1, rfl, hb1⟩⟩
      · -- 19: Op.load 25 t8   [guarded: some (15, false)]
        intro σ W' hC hw
        have e15 : σ 15 = .bool false := hw 15 (by kernel_rfl)
        clear hw
        have k_x8 := (x8.below hC (by omega)).cell
        refine OpGoes.step fun K hK => ?_
        unfold OpGoes
        go_simp
        exact hK _ _ ⟨hC, rfl, Below.refl _ _⟩
      · -- 20: Op.move t9   [guarded: some (15, false)]
        intro σ W' hC hw
        have e15 : σ 15 = .bool false := hw 15 (by kernel_rfl)
        clear hw
        refine OpGoes.step fun K hK => ?_
        unfold OpGoes
        go_simp
        exact hK _ _ ⟨hC, rfl, Below.refl _ _⟩
      · -- 21: Op.call { value (Operand.func 18), args := #[t72, t73], argTypes := #[25, 2] }   [guarded: some (15, false)]
        intro σ W' hC hw
        have e15 : σ 15 = .bool false := hw 15 (by kernel_rfl)
        have e19 : σ 19 = .agg #[.bool a3, .int .i64 b3, .bool c3, .int .i64 d3] := hw 19 (by kernel_rfl)
        have e20 : σ 20 = .int .i64 t := hw 20 (by kernel_rfl)
        clear hw
        refine OpGoes.step fun K hK => ?_
        unfold OpGoes
        go_simp
        refine (smayPut_any _ _ _ _ _ _).mono ?_
        rintro e w1 ⟨rfl, hb1⟩
        exact ⟨_, rfl, hK _ _ ⟨bstep hC hC.size hb1, rfl, hb1⟩⟩
      · -- 22: Op.binOp BinOp.neq 4 t71 t74 4   [guarded: some (15, false)]
        intro σ W' hC hw
        have e15 : σ 15 = .bool false := hw 15 (by kernel_rfl)
        have e18 : σ 18 = .bool (!c3 && decide (b3 ≤ t)) := hw 18 (by kernel_rfl)
        have e21 : σ 21 = .bool (!c3 && decide (b3 ≤ t)) := hw 21 (by kernel_rfl)
        clear hw
        refine OpGoes.step fun K hK => ?_
        unfold OpGoes
        go_simp
        exact hK _ _ ⟨hC, rfl, Below.refl _ _⟩
      · -- 23: Op.pick t68 (const (Value.bool true)) t75
        intro σ W' hC hw
        have e15 : σ 15 = .bool false := hw 15 (by kernel_rfl)
        have e22 : σ 22 = .bool false := hw 22 (by kernel_rfl)
        clear hw
        refine OpGoes.step fun K hK => ?_
        unfold OpGoes
        go_simp
        exact hK _ _ ⟨hC, rfl, Below.refl _ _⟩
      · -- 24: Op.move t76
        intro σ W' hC hw
        have e23 : σ 23 = .bool false := hw 23 (by kernel_rfl)
        clear hw
        refine OpGoes.step fun K hK => ?_
        unfold OpGoes
        go_simp
        exact hK _ _ ⟨hC, rfl, Below.refl _ _⟩
      · -- 25: Op.load 25 t13   [guarded: some (24, false)]
        intro σ W' hC hw
        have e24 : σ 24 = .bool false := hw 24 (by kernel_rfl)
        clear hw
        have k_x13 := (x13.below hC (by omega)).cell
        refine OpGoes.step fun K hK => ?_
        unfold OpGoes
        go_simp
        exact hK _ _ ⟨hC, rfl, Below.refl _ _⟩
      · -- 26: Op.load 25 t10   [guarded: some (24, false)]
        intro σ W' hC hw
        have e24 : σ 24 = .bool false := hw 24 (by kernel_rfl)
        clear hw
        have k_x10 := (x10.below hC (by omega)).cell
        refine OpGoes.step fun K hK => ?_
        unfold OpGoes
        go_simp
        exact hK _ _ ⟨hC, rfl, Below.refl _ _⟩
      · -- 27: Op.move t11   [guarded: some (24, false)]
        intro σ W' hC hw
        have e24 : σ 24 = .bool false := hw 24 (by kernel_rfl)
        clear hw
        refine OpGoes.step fun K hK => ?_
        unfold OpGoes
        go_simp
        exact hK _ _ ⟨hC, rfl, Below.refl _ _⟩
      · -- 28: Op.move t12   [guarded: some (24, false)]
        intro σ W' hC hw
        have e24 : σ 24 = .bool false := hw 24 (by kernel_rfl)
        clear hw
        refine OpGoes.step fun K hK => ?_
        unfold OpGoes
        go_simp
        exact hK _ _ ⟨hC, rfl, Below.refl _ _⟩
      · -- 29: Op.call { value (Operand.func 19), args := #[t79, t80, t81], argTypes := #[25, 2, 2] }   [guarded: some (24, false)]
        intro σ W' hC hw
        have e24 : σ 24 = .bool false := hw 24 (by kernel_rfl)
        have e26 : σ 26 = .agg #[.bool a4, .int .i64 b4, .bool c4, .int .i64 d4] := hw 26 (by kernel_rfl)
        have e27 : σ 27 = .int .i64 u := hw 27 (by kernel_rfl)
        have e28 : σ 28 = .int .i64 n := hw 28 (by kernel_rfl)
        clear hw
        refine OpGoes.step fun K hK => ?_
        unfold OpGoes
        go_simp
        refine (sleftS_any _ _ _ _ _ _ _ hu0 hu1 hn0 hn1).mono ?_
        rintro e w1 ⟨rfl, hb1⟩
        exact ⟨_, rfl, hK _ _ ⟨bstep hC hC.size hb1, rfl, hb1⟩⟩
      · -- 30: Op.binOp BinOp.neq 25 t78 t82 25   [guarded: some (24, false)]
        intro σ W' hC hw
        have e24 : σ 24 = .bool false := hw 24 (by kernel_rfl)
        have e25 : σ 25 = .agg #[.bool a4, .int .i64 (u + n), .bool false, .int .i64 0] := hw 25 (by kernel_rfl)
        have e29 : σ 29 = .agg #[.bool a4, .int .i64 (u + n), .bool false, .int .i64 0] := hw 29 (by kernel_rfl)
        clear hw
        refine OpGoes.step fun K hK => ?_
        unfold OpGoes
        go_simp
        exact hK _ _ ⟨hC, rfl, Below.refl _ _⟩
      · -- 31: Op.pick t77 (const (Value.bool true)) t83
        intro σ W' hC hw
        have e24 : σ 24 = .bool false := hw 24 (by kernel_rfl)
        have e30 : σ 30 = .bool false := hw 30 (by kernel_rfl)
        clear hw
        refine OpGoes.step fun K hK => ?_
        unfold OpGoes
        go_simp
        exact hK _ _ ⟨hC, rfl, Below.refl _ _⟩
      · intro σ W' hC hR
        have e31 : σ 31 = _ := hR 31 (by decide)
        clear hR
        simp only [lexAll]
        go_simp
        go_step
        go_meet
        exact ⟨hC, rfl⟩
    case rest =>
      obtain ⟨hb9, rfl⟩ := hcut
      replace x3 := x3.below hb9 x3.lt
      replace x4 := x4.below hb9 x4.lt
      replace x5 := x5.below hb9 x5.lt
      replace x6 := x6.below hb9 x6.lt
      replace x8 := x8.below hb9 x8.lt
      replace x10 := x10.below hb9 x10.lt
      replace x13 := x13.below hb9 x13.lt
      replace hB8 := bstep hB8 hB8.size hb9
      clear hb9 l3 l4 l5 l6 l8 l10 l13 l14 x14
      have hd1 : decide (u + n ≤ u) = false := by simp; omega
      have hd2 : decide (u + n ≤ u + n) = true := by simp
      have hH := H.out
      have hcs : (a = a1) = False ∨ (a = a1 ∧ (b = b1) = False) ∨ (a = a1 ∧ b = b1 ∧ (c = c1) = False) ∨ (a = a1 ∧ b = b1 ∧ c = c1 ∧ (d = d1) = False) := by
        by_cases ea : a = a1
        · by_cases eb : b = b1
          · by_cases ec : c = c1
            · exact .inr (.inr (.inr ⟨ea, eb, ec, by simpa using fun ed => hH ⟨ea, eb, ec, ed⟩⟩))
            · exact .inr (.inr (.inl ⟨ea, eb, by simpa using ec⟩))
          · exact .inr (.inl ⟨ea, by simpa using eb⟩)
        · exact .inl (by simpa using ea)
      clear hH
      rcases hcs with ha | ⟨rfl, hb'⟩ | ⟨rfl, rfl, hc'⟩ | ⟨rfl, rfl, rfl, hd'⟩
      · have k3 := x3.cell
        have k4 := x4.cell
        have k5 := x5.cell
        have k6 := x6.cell
        have k8 := x8.cell
        have k10 := x10.cell
        have k13 := x13.cell
        go_wp2_with fail
        refine (imayPut_any _ _ _ _ _ _).mono ?_
        rintro e w9 ⟨rfl, hb⟩
        clear k3 k4 k5 k6 k8 k10 k13
        replace x3 := x3.below hb x3.lt
        replace x4 := x4.below hb x4.lt
        replace x5 := x5.below hb x5.lt
        replace x6 := x6.below hb x6.lt
        replace x8 := x8.below hb x8.lt
        replace x10 := x10.below hb x10.lt
        replace x13 := x13.below hb x13.lt
        replace hB8 := bstep hB8 hB8.size hb
        clear hb
        have k3 := x3.cell
        have k4 := x4.cell
        have k5 := x5.cell
        have k6 := x6.cell
        have k8 := x8.cell
        have k10 := x10.cell
        have k13 := x13.cell
        go_wp2_with fail
        refine (imayPut_any _ _ _ _ _ _).mono ?_
        rintro e w10 ⟨rfl, hb⟩
        clear k3 k4 k5 k6 k8 k10 k13
        replace x3 := x3.below hb x3.lt
        replace x4 := x4.below hb x4.lt
        replace x5 := x5.below hb x5.lt
        replace x6 := x6.below hb x6.lt
        replace x8 := x8.below hb x8.lt
        replace x10 := x10.below hb x10.lt
        replace x13 := x13.below hb x13.lt
        replace hB8 := bstep hB8 hB8.size hb
        clear hb
        have k3 := x3.cell
        have k4 := x4.cell
        have k5 := x5.cell
        have k6 := x6.cell
        have k8 := x8.cell
        have k10 := x10.cell
        have k13 := x13.cell
        go_wp2_with fail
        refine (imayPut_any _ _ _ _ _ _).mono ?_
        rintro e w11 ⟨rfl, hb⟩
        clear k3 k4 k5 k6 k8 k10 k13
        replace x3 := x3.below hb x3.lt
        replace x4 := x4.below hb x4.lt
        replace x5 := x5.below hb x5.lt
        replace x6 := x6.below hb x6.lt
        replace x8 := x8.below hb x8.lt
        replace x10 := x10.below hb x10.lt
        replace x13 := x13.below hb x13.lt
        replace hB8 := bstep hB8 hB8.size hb
        clear hb
        have k3 := x3.cell
        have k4 := x4.cell
        have k5 := x5.cell
        have k6 := x6.cell
        have k8 := x8.cell
        have k10 := x10.cell
        have k13 := x13.cell
        cases hm : (!c3 && decide (b3 ≤ t))
        · go_wp2
          go_ret
          exact .mk (by simp) hB8
        · have hm' : (!c3 && decide (b3 ≤ t + 1)) = true := by
            simp at hm ⊢
            exact ⟨hm.1, by omega⟩
          go_wp2_with fail
          refine (imayPut_any _ _ _ _ _ _).mono ?_
          rintro e w12 ⟨rfl, hb⟩
          go_wp2
          go_ret
          exact .mk (by simp) (bstep hB8 hB8.size hb)
      · have k3 := x3.cell
        have k4 := x4.cell
        have k5 := x5.cell
        have k6 := x6.cell
        have k8 := x8.cell
        have k10 := x10.cell
        have k13 := x13.cell
        go_wp2_with fail
        refine (imayPut_any _ _ _ _ _ _).mono ?_
        rintro e w9 ⟨rfl, hb⟩
        clear k3 k4 k5 k6 k8 k10 k13
        replace x3 := x3.below hb x3.lt
        replace x4 := x4.below hb x4.lt
        replace x5 := x5.below hb x5.lt
        replace x6 := x6.below hb x6.lt
        replace x8 := x8.below hb x8.lt
        replace x10 := x10.below hb x10.lt
        replace x13 := x13.below hb x13.lt
        replace hB8 := bstep hB8 hB8.size hb
        clear hb
        have k3 := x3.cell
        have k4 := x4.cell
        have k5 := x5.cell
        have k6 := x6.cell
        have k8 := x8.cell
        have k10 := x10.cell
        have k13 := x13.cell
        go_wp2_with fail
        refine (imayPut_any _ _ _ _ _ _).mono ?_
        rintro e w10 ⟨rfl, hb⟩
        clear k3 k4 k5 k6 k8 k10 k13
        replace x3 := x3.below hb x3.lt
        replace x4 := x4.below hb x4.lt
        replace x5 := x5.below hb x5.lt
        replace x6 := x6.below hb x6.lt
        replace x8 := x8.below hb x8.lt
        replace x10 := x10.below hb x10.lt
        replace x13 := x13.below hb x13.lt
        replace hB8 := bstep hB8 hB8.size hb
        clear hb
        have k3 := x3.cell
        have k4 := x4.cell
        have k5 := x5.cell
        have k6 := x6.cell
        have k8 := x8.cell
        have k10 := x10.cell
        have k13 := x13.cell
        go_wp2_with fail
        refine (imayPut_any _ _ _ _ _ _).mono ?_
        rintro e w11 ⟨rfl, hb⟩
        clear k3 k4 k5 k6 k8 k10 k13
        replace x3 := x3.below hb x3.lt
        replace x4 := x4.below hb x4.lt
        replace x5 := x5.below hb x5.lt
        replace x6 := x6.below hb x6.lt
        replace x8 := x8.below hb x8.lt
        replace x10 := x10.below hb x10.lt
        replace x13 := x13.below hb x13.lt
        replace hB8 := bstep hB8 hB8.size hb
        clear hb
        have k3 := x3.cell
        have k4 := x4.cell
        have k5 := x5.cell
        have k6 := x6.cell
        have k8 := x8.cell
        have k10 := x10.cell
        have k13 := x13.cell
        cases hm : (!c3 && decide (b3 ≤ t))
        · go_wp2
          go_ret
          exact .mk (by simp) hB8
        · have hm' : (!c3 && decide (b3 ≤ t + 1)) = true := by
            simp at hm ⊢
            exact ⟨hm.1, by omega⟩
          go_wp2_with fail
          refine (imayPut_any _ _ _ _ _ _).mono ?_
          rintro e w12 ⟨rfl, hb⟩
          go_wp2
          go_ret
          exact .mk (by simp) (bstep hB8 hB8.size hb)
      · have k3 := x3.cell
        have k4 := x4.cell
        have k5 := x5.cell
        have k6 := x6.cell
        have k8 := x8.cell
        have k10 := x10.cell
        have k13 := x13.cell
        go_wp2_with fail
        refine (imayPut_any _ _ _ _ _ _).mono ?_
        rintro e w9 ⟨rfl, hb⟩
        clear k3 k4 k5 k6 k8 k10 k13
        replace x3 := x3.below hb x3.lt
        replace x4 := x4.below hb x4.lt
        replace x5 := x5.below hb x5.lt
        replace x6 := x6.below hb x6.lt
        replace x8 := x8.below hb x8.lt
        replace x10 := x10.below hb x10.lt
        replace x13 := x13.below hb x13.lt
        replace hB8 := bstep hB8 hB8.size hb
        clear hb
        have k3 := x3.cell
        have k4 := x4.cell
        have k5 := x5.cell
        have k6 := x6.cell
        have k8 := x8.cell
        have k10 := x10.cell
        have k13 := x13.cell
        go_wp2_with fail
        refine (imayPut_any _ _ _ _ _ _).mono ?_
        rintro e w10 ⟨rfl, hb⟩
        clear k3 k4 k5 k6 k8 k10 k13
        replace x3 := x3.below hb x3.lt
        replace x4 := x4.below hb x4.lt
        replace x5 := x5.below hb x5.lt
        replace x6 := x6.below hb x6.lt
        replace x8 := x8.below hb x8.lt
        replace x10 := x10.below hb x10.lt
        replace x13 := x13.below hb x13.lt
        replace hB8 := bstep hB8 hB8.size hb
        clear hb
        have k3 := x3.cell
        have k4 := x4.cell
        have k5 := x5.cell
        have k6 := x6.cell
        have k8 := x8.cell
        have k10 := x10.cell
        have k13 := x13.cell
        go_wp2_with fail
        refine (imayPut_any _ _ _ _ _ _).mono ?_
        rintro e w11 ⟨rfl, hb⟩
        clear k3 k4 k5 k6 k8 k10 k13
        replace x3 := x3.below hb x3.lt
        replace x4 := x4.below hb x4.lt
        replace x5 := x5.below hb x5.lt
        replace x6 := x6.below hb x6.lt
        replace x8 := x8.below hb x8.lt
        replace x10 := x10.below hb x10.lt
        replace x13 := x13.below hb x13.lt
        replace hB8 := bstep hB8 hB8.size hb
        clear hb
        have k3 := x3.cell
        have k4 := x4.cell
        have k5 := x5.cell
        have k6 := x6.cell
        have k8 := x8.cell
        have k10 := x10.cell
        have k13 := x13.cell
        cases hm : (!c3 && decide (b3 ≤ t))
        · go_wp2
          go_ret
          exact .mk (by simp) hB8
        · have hm' : (!c3 && decide (b3 ≤ t + 1)) = true := by
            simp at hm ⊢
            exact ⟨hm.1, by omega⟩
          go_wp2_with fail
          refine (imayPut_any _ _ _ _ _ _).mono ?_
          rintro e w12 ⟨rfl, hb⟩
          go_wp2
          go_ret
          exact .mk (by simp) (bstep hB8 hB8.size hb)
      · have k3 := x3.cell
        have k4 := x4.cell
        have k5 := x5.cell
        have k6 := x6.cell
        have k8 := x8.cell
        have k10 := x10.cell
        have k13 := x13.cell
        go_wp2_with fail
        refine (imayPut_any _ _ _ _ _ _).mono ?_
        rintro e w9 ⟨rfl, hb⟩
        clear k3 k4 k5 k6 k8 k10 k13
        replace x3 := x3.below hb x3.lt
        replace x4 := x4.below hb x4.lt
        replace x5 := x5.below hb x5.lt
        replace x6 := x6.below hb x6.lt
        replace x8 := x8.below hb x8.lt
        replace x10 := x10.below hb x10.lt
        replace x13 := x13.below hb x13.lt
        replace hB8 := bstep hB8 hB8.size hb
        clear hb
        have k3 := x3.cell
        have k4 := x4.cell
        have k5 := x5.cell
        have k6 := x6.cell
        have k8 := x8.cell
        have k10 := x10.cell
        have k13 := x13.cell
        go_wp2_with fail
        refine (imayPut_any _ _ _ _ _ _).mono ?_
        rintro e w10 ⟨rfl, hb⟩
        clear k3 k4 k5 k6 k8 k10 k13
        replace x3 := x3.below hb x3.lt
        replace x4 := x4.below hb x4.lt
        replace x5 := x5.below hb x5.lt
        replace x6 := x6.below hb x6.lt
        replace x8 := x8.below hb x8.lt
        replace x10 := x10.below hb x10.lt
        replace x13 := x13.below hb x13.lt
        replace hB8 := bstep hB8 hB8.size hb
        clear hb
        have k3 := x3.cell
        have k4 := x4.cell
        have k5 := x5.cell
        have k6 := x6.cell
        have k8 := x8.cell
        have k10 := x10.cell
        have k13 := x13.cell
        go_wp2_with fail
        refine (imayPut_any _ _ _ _ _ _).mono ?_
        rintro e w11 ⟨rfl, hb⟩
        clear k3 k4 k5 k6 k8 k10 k13
        replace x3 := x3.below hb x3.lt
        replace x4 := x4.below hb x4.lt
        replace x5 := x5.below hb x5.lt
        replace x6 := x6.below hb x6.lt
        replace x8 := x8.below hb x8.lt
        replace x10 := x10.below hb x10.lt
        replace x13 := x13.below hb x13.lt
        replace hB8 := bstep hB8 hB8.size hb
        clear hb
        have k3 := x3.cell
        have k4 := x4.cell
        have k5 := x5.cell
        have k6 := x6.cell
        have k8 := x8.cell
        have k10 := x10.cell
        have k13 := x13.cell
        cases hm : (!c3 && decide (b3 ≤ t))
        · go_wp2
          go_ret
          exact .mk (by simp) hB8
        · have hm' : (!c3 && decide (b3 ≤ t + 1)) = true := by
            simp at hm ⊢
            exact ⟨hm.1, by omega⟩
          go_wp2_with fail
          refine (imayPut_any _ _ _ _ _ _).mono ?_
          rintro e w12 ⟨rfl, hb⟩
          go_wp2
          go_ret
          exact .mk (by simp) (bstep hB8 hB8.size hb)

end Go.Proofs.Ytdbnghlabhgigaa
