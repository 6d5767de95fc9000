/-
  The walk of the law on Ahead.
-/
import Derived.Test.YtcbmloadnopjdaaEvA
import Derived.Test.YtcbmloadnopjdaaGrow
namespace Go.Proofs.Ytcbmloadnopjdaa
set_option linter.unusedSimpArgs false
set_option linter.unusedVariables false
open Go.RowKit Go.ChangeShapes Go.WideShapes Go.ChangeAt Go.Joins
set_option linter.unusedVariables false
attribute [local go_sem] OpUpon

attribute [local go_sem ↓] Go.wp_at_zero Go.wp_at_succ

set_option maxHeartbeats 400000 in
theorem sahead_any (x y : Ev) (w : World) : Calls Try.prog 12 #[.agg #[.int .i64 x.who, .bool x.put, .int .i64 x.v, .int .i64 x.re, .int .i64 x.b, .int .i64 x.e], .agg #[.int .i64 y.who, .bool y.put, .int .i64 y.v, .int .i64 y.re, .int .i64 y.b, .int .i64 y.e]] w (RetBelow (.bool (decide (x.e < y.b))) w) := by
  by_cases h : x.e < y.b
  all_goals
    go_enter Try.func12, Try.ntmps12
    go_wp2
    go_ret
    exact .mk (by simp [h]) (((Below.refl _ _).alloc (Nat.le_refl _) _).alloc (by simp) _)

set_option maxHeartbeats 400000 in
theorem iahead_any (x y : Ev) (w : World) : Calls Try.prog 14 #[.agg #[.int .i64 x.who, .bool x.put, .int .i64 x.v, .int .i64 x.re, .int .i64 x.b, .int .i64 x.e], .agg #[.int .i64 y.who, .bool y.put, .int .i64 y.v, .int .i64 y.re, .int .i64 y.b, .int .i64 y.e]] w (RetBelow (.bool (decide (x.e < y.b))) w) := by
  by_cases h : x.e < y.b
  all_goals
    go_enter Try.func14, Try.ntmps14
    go_wp2
    go_ret
    exact .mk (by simp [h]) (((Below.refl _ _).alloc (Nat.le_refl _) _).alloc (by simp) _)

def ahsR (_N : Nat) (x y : Ev) (j : Nat) (σ : Nat → Value) (w : World) : Prop :=
  match j with
  | 0 => σ 0 = .agg #[.int .i64 x.who, .bool x.put, .int .i64 x.v, .int .i64 x.re, .int .i64 x.b, .int .i64 x.e]
  | 1 => σ 1 = .agg #[.int .i64 x.who, .bool x.put, .int .i64 x.v, .int .i64 x.re, .int .i64 x.b, .int .i64 x.e]
  | 2 => σ 2 = .agg #[.int .i64 y.who, .bool y.put, .int .i64 y.v, .int .i64 y.re, .int .i64 y.b, .int .i64 y.e]
  | 3 => σ 3 = .agg #[.int .i64 y.who, .bool y.put, .int .i64 y.v, .int .i64 y.re, .int .i64 y.b, .int .i64 y.e]
  | 4 => σ 4 = .bool (decide (x.e < y.b))
  | 5 => σ 5 = .bool (decide (x.e < y.b))
  | _ => True

def ahsS (j : Nat) : List Nat := [[0], [1], [2], [3], [4], [5]].getD j [j]
def ahsK (j : Nat) : Nat := [0, 0, 0, 0, 0, 0].getD j 0

def ahiR (_N : Nat) (x y : Ev) (j : Nat) (σ : Nat → Value) (w : World) : Prop :=
  match j with
  | 0 => σ 0 = .agg #[.int .i64 x.who, .bool x.put, .int .i64 x.v, .int .i64 x.re, .int .i64 x.b, .int .i64 x.e]
  | 1 => σ 1 = .agg #[.int .i64 x.who, .bool x.put, .int .i64 x.v, .int .i64 x.re, .int .i64 x.b, .int .i64 x.e]
  | 2 => σ 2 = .agg #[.int .i64 y.who, .bool y.put, .int .i64 y.v, .int .i64 y.re, .int .i64 y.b, .int .i64 y.e]
  | 3 => σ 3 = .agg #[.int .i64 y.who, .bool y.put, .int .i64 y.v, .int .i64 y.re, .int .i64 y.b, .int .i64 y.e]
  | 4 => σ 4 = .bool (decide (x.e < y.b))
  | 5 => σ 5 = .bool (decide (x.e < y.b))
  | _ => True

def ahiS (j : Nat) : List Nat := [[0], [1], [2], [3], [4], [5]].getD j [j]
def ahiK (j : Nat) : Nat := [0, 0, 0, 0, 0, 0].getD j 0

set_option maxHeartbeats 1000000 in
theorem exactAhead_any (x y : Ev) (w : World) : Calls Try.prog 4 #[.agg #[.int .i64 x.who, .bool x.put, .int .i64 x.v, .int .i64 x.re, .int .i64 x.b, .int .i64 x.e], .agg #[.int .i64 y.who, .bool y.put, .int .i64 y.v, .int .i64 y.re, .int .i64 y.b, .int .i64 y.e]] w (RetBelow (.bool true) w) := by
  go_enter Try.func4, Try.ntmps4
  go_wp2_with fail
  refine wp_abs (fun W => Below w.heap.size w W ∧ BoxAt W w.heap.size #[.int .i64 x.who, .bool x.put, .int .i64 x.v, .int .i64 x.re, .int .i64 x.b, .int .i64 x.e] 30 ∧ BoxAt W (w.heap.size + 1) #[.int .i64 y.who, .bool y.put, .int .i64 y.v, .int .i64 y.re, .int .i64 y.b, .int .i64 y.e] 30) ⟨((Below.refl _ _).alloc (Nat.le_refl _) _).alloc (by simp) _, (BoxAt.new _ _ _).alloc _, BoxAt.new' (by simp)⟩ ?_
  rintro W ⟨hW, h0, h1⟩
  have l0 := h0.lt
  have l1 := h1.lt
  go_cut [5] (fun s5 W' => Below W.heap.size W W' ∧ s5 = .bool (decide (x.e < y.b)))
  case first =>
    refine wp_region_R (fun W' => Below W.heap.size W W') (ahsR W.heap.size x y) ahsK ahsS (by kernel_rfl) (by kernel_rfl) ?_ ?_ ?_
      (.grow rfl ?_ <| .grow rfl ?_ <| .grow rfl ?_ <| .grow rfl ?_ <| .grow rfl ?_ <| .grow rfl ?_ <| .nil) ?_
    · intro j σ τ w h hR
      match j, h, hR with
      | 0, h, hR => exact (h 0 (by decide)).symm.trans hR
      | 1, h, hR => exact (h 1 (by decide)).symm.trans hR
      | 2, h, hR => exact (h 2 (by decide)).symm.trans hR
      | 3, h, hR => exact (h 3 (by decide)).symm.trans hR
      | 4, h, hR => exact (h 4 (by decide)).symm.trans hR
      | 5, h, hR => exact (h 5 (by decide)).symm.trans hR
      | _ + 6, _, _ => exact trivial
    · intro j σ w w' hb hR
      match j, hR with
      | 0, hR => exact hR
      | 1, hR => exact hR
      | 2, hR => exact hR
      | 3, hR => exact hR
      | 4, hR => exact hR
      | 5, hR => exact hR
      | _ + 6, _ => exact trivial
    · exact Below.drew (Below.refl _ _)
    · -- 0: Op.load 30 t2
      intro σ W' hC hw
      clear hw
      have k_h0 := (h0.below hC (by omega)).cell
      refine OpGoes.step fun K hK => ?_
      unfold OpGoes
      go_simp
      exact hK _ _ ⟨hC, rfl, Below.refl _ _⟩
    · -- 1: Op.call { value (Operand.func 13), args := #[t7], argTypes := #[30] }
      intro σ W' hC hw
      have e0 : σ 0 = .agg #[.int .i64 x.who, .bool x.put, .int .i64 x.v, .int .i64 x.re, .int .i64 x.b, .int .i64 x.e] := hw 0 (by kernel_rfl)
      clear hw
      refine OpGoes.step fun K hK => ?_
      unfold OpGoes
      go_simp
      refine (toEvent_any x _).mono ?_
      rintro e w1 ⟨rfl, hb1⟩
      exact ⟨_, rfl, hK _ _ ⟨bstep hC hC.size hb1, rfl, hb1⟩⟩
    · -- 2: Op.load 30 t3
      intro σ W' hC hw
      clear hw
      have k_h1 := (h1.below hC (by omega)).cell
      refine OpGoes.step fun K hK => ?_
      unfold OpGoes
      go_simp
      exact hK _ _ ⟨hC, rfl, Below.refl _ _⟩
    · -- 3: Op.call { value (Operand.func 13), args := #[t9], argTypes := #[30] }
      intro σ W' hC hw
      have e2 : σ 2 = .agg #[.int .i64 y.who, .bool y.put, .int .i64 y.v, .int .i64 y.re, .int .i64 y.b, .int .i64 y.e] := hw 2 (by kernel_rfl)
      clear hw
      refine OpGoes.step fun K hK => ?_
      unfold OpGoes
      go_simp
      refine (toEvent_any y _).mono ?_
      rintro e w1 ⟨rfl, hb1⟩
      exact ⟨_, rfl, hK _ _ ⟨bstep hC hC.size hb1, rfl, hb1⟩⟩
    · -- 4: Op.call { value (Operand.func 12), args := #[t8, t10], argTypes := #[32, 32] }
      intro σ W' hC hw
      have e1 : σ 1 = .agg #[.int .i64 x.who, .bool x.put, .int .i64 x.v, .int .i64 x.re, .int .i64 x.b, .int .i64 x.e] := hw 1 (by kernel_rfl)
      have e3 : σ 3 = .agg #[.int .i64 y.who, .bool y.put, .int .i64 y.v, .int .i64 y.re, .int .i64 y.b, .int .i64 y.e] := hw 3 (by kernel_rfl)
      clear hw
      refine OpGoes.step fun K hK => ?_
      unfold OpGoes
      go_simp
      refine (sahead_any x y _).mono ?_
      rintro e w1 ⟨rfl, hb1⟩
      exact ⟨_, rfl, hK _ _ ⟨bstep hC hC.size hb1, rfl, hb1⟩⟩
    · -- 5: Op.assign t11
      intro σ W' hC hw
      have e4 : σ 4 = .bool (decide (x.e < y.b)) := hw 4 (by kernel_rfl)
      clear hw
      refine OpGoes.step fun K hK => ?_
      unfold OpGoes
      go_simp
      exact hK _ _ ⟨hC, rfl, Below.refl _ _⟩
    · intro σ W' hC hR
      have e5 : σ 5 = _ := hR 5 (by decide)
      clear hR
      simp only [lexAll]
      go_simp
      go_step
      go_meet
      exact ⟨hC, rfl⟩
  case rest =>
    obtain ⟨hb1, rfl⟩ := hcut
    replace h0 := h0.below hb1 l0
    replace h1 := h1.below hb1 l1
    replace l0 := h0.lt
    replace l1 := h1.lt
    replace hW := bstep hW hW.size hb1
    clear hb1
    go_upto_region 2 with fail
    go_cut [6] (fun s6 W' => Below wc.heap.size wc W' ∧ s6 = .bool (decide (x.e < y.b)))
    case first =>
      refine wp_region_R (fun W' => Below wc.heap.size wc W') (ahiR wc.heap.size x y) ahiK ahiS (by kernel_rfl) (by kernel_rfl) ?_ ?_ ?_
        (.grow rfl ?_ <| .grow rfl ?_ <| .grow rfl ?_ <| .grow rfl ?_ <| .grow rfl ?_ <| .grow rfl ?_ <| .nil) ?_
      · intro j σ τ w h hR
        match j, h, hR with
        | 0, h, hR => exact (h 0 (by decide)).symm.trans hR
        | 1, h, hR => exact (h 1 (by decide)).symm.trans hR
        | 2, h, hR => exact (h 2 (by decide)).symm.trans hR
        | 3, h, hR => exact (h 3 (by decide)).symm.trans hR
        | 4, h, hR => exact (h 4 (by decide)).symm.trans hR
        | 5, h, hR => exact (h 5 (by decide)).symm.trans hR
        | _ + 6, _, _ => exact trivial
      · intro j σ w w' hb hR
        match j, hR with
        | 0, hR => exact hR
        | 1, hR => exact hR
        | 2, hR => exact hR
        | 3, hR => exact hR
        | 4, hR => exact hR
        | 5, hR => exact hR
        | _ + 6, _ => exact trivial
      · exact Below.drew (Below.refl _ _)
      · -- 0: Op.load 30 t2
        intro σ W' hC hw
        clear hw
        have k_h0 := (h0.below hC (by omega)).cell
        refine OpGoes.step fun K hK => ?_
        unfold OpGoes
        go_simp
        exact hK _ _ ⟨hC, rfl, Below.refl _ _⟩
      · -- 1: Op.call { value (Operand.func 13), args := #[t12], argTypes := #[30] }
        intro σ W' hC hw
        have e0 : σ 0 = .agg #[.int .i64 x.who, .bool x.put, .int .i64 x.v, .int .i64 x.re, .int .i64 x.b, .int .i64 x.e] := hw 0 (by kernel_rfl)
        clear hw
        refine OpGoes.step fun K hK => ?_
        unfold OpGoes
        go_simp
        refine (toEvent_any x _).mono ?_
        rintro e w1 ⟨rfl, hb1⟩
        exact ⟨_, rfl, hK _ _ ⟨bstep hC hC.size hb1, rfl, hb1⟩⟩
      · -- 2: Op.load 30 t3
        intro σ W' hC hw
        clear hw
        have k_h1 := (h1.below hC (by omega)).cell
        refine OpGoes.step fun K hK => ?_
        unfold OpGoes
        go_simp
        exact hK _ _ ⟨hC, rfl, Below.refl _ _⟩
      · -- 3: Op.call { value (Operand.func 13), args := #[t14], argTypes := #[30] }
        intro σ W' hC hw
        have e2 : σ 2 = .agg #[.int .i64 y.who, .bool y.put, .int .i64 y.v, .int .i64 y.re, .int .i64 y.b, .int .i64 y.e] := hw 2 (by kernel_rfl)
        clear hw
        refine OpGoes.step fun K hK => ?_
        unfold OpGoes
        go_simp
        refine (toEvent_any y _).mono ?_
        rintro e w1 ⟨rfl, hb1⟩
        exact ⟨_, rfl, hK _ _ ⟨bstep hC hC.size hb1, rfl, hb1⟩⟩
      · -- 4: Op.call { value (Operand.func 14), args := #[t13, t15], argTypes := #[32, 32] }
        intro σ W' hC hw
        have e1 : σ 1 = .agg #[.int .i64 x.who, .bool x.put, .int .i64 x.v, .int .i64 x.re, .int .i64 x.b, .int .i64 x.e] := hw 1 (by kernel_rfl)
        have e3 : σ 3 = .agg #[.int .i64 y.who, .bool y.put, .int .i64 y.v, .int .i64 y.re, .int .i64 y.b, .int .i64 y.e] := hw 3 (by kernel_rfl)
        clear hw
        refine OpGoes.step fun K hK => ?_
        unfold OpGoes
        go_simp
        refine (iahead_any x y _).mono ?_
        rintro e w1 ⟨rfl, hb1⟩
        exact ⟨_, rfl, hK _ _ ⟨bstep hC hC.size hb1, rfl, hb1⟩⟩
      · -- 5: Op.assign t16
        intro σ W' hC hw
        have e4 : σ 4 = .bool (decide (x.e < y.b)) := hw 4 (by kernel_rfl)
        clear hw
        refine OpGoes.step fun K hK => ?_
        unfold OpGoes
        go_simp
        exact hK _ _ ⟨hC, rfl, Below.refl _ _⟩
      · intro σ W' hC hR
        have e5 : σ 5 = _ := hR 5 (by decide)
        clear hR
        simp only [lexAll]
        go_simp
        go_step
        go_meet
        exact ⟨hC, rfl⟩
    case rest =>
      obtain ⟨hb2, rfl⟩ := hcut
      generalize decide (x.e < y.b) = z
      go_wp2
      go_ret
      exact .mk rfl (bstep hW hW.size hb2)

end Go.Proofs.Ytcbmloadnopjdaa
