/-
  The walk of the law on Swapped.
-/
import Derived.Test.YtdbnghlabhgigaaPlaceC
import Derived.Test.YtdbnghlabhgigaaGrow
namespace Go.Proofs.Ytdbnghlabhgigaa
open Go.RowKit Go.ChangeShapes Go.WideShapes Go.ChangeAt Go.Joins
set_option linter.unusedVariables false
attribute [local go_sem] OpUpon

def swsyesR (N : Nat) (a a2 c c2 : Bool) (b b2 d d2 : Int) (j : Nat) (σ : Nat → Value) (w : World) : Prop :=
  match j with
  | 0 => σ 0 = .agg #[.bool a, .int .i64 b, .bool c, .int .i64 d]
  | 1 => σ 1 = .agg #[.bool a, .int .i64 b, .bool c, .int .i64 d]
  | 2 => σ 2 = .agg #[.bool a, .int .i64 b, .bool c, .int .i64 d]
  | 3 => σ 3 = .agg #[.bool a, .int .i64 b, .bool c, .int .i64 d]
  | 4 => σ 4 = .agg #[.bool a2, .int .i64 b2, .bool c2, .int .i64 d2]
  | 5 => σ 5 = .agg #[.bool a2, .int .i64 b2, .bool c2, .int .i64 d2]
  | 6 => σ 6 = .tuple #[.agg #[.bool a2, .int .i64 b2, .bool c2, .int .i64 d2], .bool true]
  | 7 => σ 7 = .tuple #[.agg #[.bool a2, .int .i64 b2, .bool c2, .int .i64 d2], .bool true]
  | 8 => σ 8 = .agg #[.bool a2, .int .i64 b2, .bool c2, .int .i64 d2]
  | 9 => σ 9 = .bool true
  | 10 => ∃ g, σ 10 = .pointer (some ⟨g, 0, none⟩) ∧ N ≤ g ∧ ∃ x0 x1 x2 x3, BoxAt w g #[x0, x1, x2, x3] 25
  | 11 => ∃ g, σ 10 = .pointer (some ⟨g, 0, none⟩) ∧ N ≤ g ∧ BoxAt w g #[.bool a2, .int .i64 b2, .bool c2, .int .i64 d2] 25
  | 12 => σ 12 = .bool true
  | _ => True

def swsyesS (j : Nat) : List Nat := [[0], [1], [2], [3], [4], [5], [6], [7], [8], [9], [10], [10, 11], [12]].getD j [j]
def swsyesK (j : Nat) : Nat := [0, 0, 0, 0, 0, 0, 0, 0, 0, 0, 2, 1, 0].getD j 0

def swiyesR (N : Nat) (a a2 c c2 : Bool) (b b2 d d2 : Int) (j : Nat) (σ : Nat → Value) (w : World) : Prop :=
  match j with
  | 0 => σ 0 = .agg #[.bool a, .int .i64 b, .bool c, .int .i64 d]
  | 1 => σ 1 = .agg #[.bool a, .int .i64 b, .bool c, .int .i64 d]
  | 2 => σ 2 = .agg #[.bool a, .int .i64 b, .bool c, .int .i64 d]
  | 3 => σ 3 = .agg #[.bool a, .int .i64 b, .bool c, .int .i64 d]
  | 4 => σ 4 = .agg #[.bool a2, .int .i64 b2, .bool c2, .int .i64 d2]
  | 5 => σ 5 = .agg #[.bool a2, .int .i64 b2, .bool c2, .int .i64 d2]
  | 6 => σ 6 = .tuple #[.agg #[.bool a2, .int .i64 b2, .bool c2, .int .i64 d2], .bool true]
  | 7 => σ 7 = .tuple #[.agg #[.bool a2, .int .i64 b2, .bool c2, .int .i64 d2], .bool true]
  | 8 => σ 8 = .agg #[.bool a2, .int .i64 b2, .bool c2, .int .i64 d2]
  | 9 => σ 9 = .bool true
  | 10 => ∃ g, σ 10 = .pointer (some ⟨g, 0, none⟩) ∧ N ≤ g ∧ ∃ x0 x1 x2 x3, BoxAt w g #[x0, x1, x2, x3] 25
  | 11 => ∃ g, σ 10 = .pointer (some ⟨g, 0, none⟩) ∧ N ≤ g ∧ BoxAt w g #[.bool a2, .int .i64 b2, .bool c2, .int .i64 d2] 25
  | 12 => σ 12 = .bool true
  | _ => True

def swiyesS (j : Nat) : List Nat := [[0], [1], [2], [3], [4], [5], [6], [7], [8], [9], [10], [10, 11], [12]].getD j [j]
def swiyesK (j : Nat) : Nat := [0, 0, 0, 0, 0, 0, 0, 0, 0, 0, 2, 1, 0].getD j 0

set_option maxHeartbeats 1000000 in
theorem exactSwapped_yes (a a2 c c2 : Bool) (b b2 d d2 : Int) (w : World) :
    Calls Try.prog 5 #[.agg #[.bool a, .int .i64 b, .bool c, .int .i64 d], .agg #[.bool a, .int .i64 b, .bool c, .int .i64 d], .agg #[.bool a2, .int .i64 b2, .bool c2, .int .i64 d2]] w (RetBelow (.bool true) w) := by
  go_enter Try.func5, Try.ntmps5
  go_wp2_with fail
  refine wp_abs (fun W => Below w.heap.size w W ∧ BoxAt W w.heap.size #[.bool a, .int .i64 b, .bool c, .int .i64 d] 37 ∧ BoxAt W (w.heap.size + 1) #[.bool a, .int .i64 b, .bool c, .int .i64 d] 37 ∧ BoxAt W (w.heap.size + 1 + 1) #[.bool a2, .int .i64 b2, .bool c2, .int .i64 d2] 37) ?_ ?_
  · refine ⟨(((Below.refl _ _).alloc (Nat.le_refl _) _).alloc (by simp) _).alloc (by simp; omega) _, ?_, ?_, ?_⟩
    · exact ((BoxAt.new _ _ _).alloc _).alloc _
    · have := (BoxAt.new (w.alloc (.cells #[.bool a, .int .i64 b, .bool c, .int .i64 d] 37)) #[.bool a, .int .i64 b, .bool c, .int .i64 d] 37).alloc (.cells #[.bool a2, .int .i64 b2, .bool c2, .int .i64 d2] 37)
      simpa using this
    · have := (BoxAt.new ((w.alloc (.cells #[.bool a, .int .i64 b, .bool c, .int .i64 d] 37)).alloc (.cells #[.bool a, .int .i64 b, .bool c, .int .i64 d] 37)) #[.bool a2, .int .i64 b2, .bool c2, .int .i64 d2] 37)
      simpa using this
  rintro W ⟨hW, h0, h1, h2⟩
  have l0 := h0.lt
  have l1 := h1.lt
  have l2 := h2.lt
  go_cut [7, 8] (fun s7 s8 W' => Below W.heap.size W W' ∧ ∃ g, s7 = .pointer (some ⟨g, 0, none⟩) ∧ W.heap.size ≤ g ∧ BoxAt W' g #[.bool a2, .int .i64 b2, .bool c2, .int .i64 d2] 25 ∧ s8 = .bool true)
  case first =>
    refine wp_region_R (fun W' => Below W.heap.size W W') (swsyesR W.heap.size a a2 c c2 b b2 d d2) swsyesK swsyesS (by kernel_rfl) (by kernel_rfl) ?_ ?_ ?_
      (.grow rfl ?_ <| .grow rfl ?_ <| .grow rfl ?_ <| .grow rfl ?_ <| .grow rfl ?_ <| .grow rfl ?_ <| .grow rfl ?_ <| .grow rfl ?_ <| .grow rfl ?_ <| .grow rfl ?_ <| .make rfl ?_ <| .store rfl ?_ <| .grow rfl ?_ <| .nil) ?_
    · intro j σ τ w h hR
      match j, h, hR with
      | 0, h, hR => exact (h 0 (by decide)).symm.trans hR
      | 1, h, hR => exact (h 1 (by decide)).symm.trans hR
      | 2, h, hR => exact (h 2 (by decide)).symm.trans hR
      | 3, h, hR => exact (h 3 (by decide)).symm.trans hR
      | 4, h, hR => exact (h 4 (by decide)).symm.trans hR
      | 5, h, hR => exact (h 5 (by decide)).symm.trans hR
      | 6, h, hR => exact (h 6 (by decide)).symm.trans hR
      | 7, h, hR => exact (h 7 (by decide)).symm.trans hR
      | 8, h, hR => exact (h 8 (by decide)).symm.trans hR
      | 9, h, hR => exact (h 9 (by decide)).symm.trans hR
      | 10, h, hR => obtain ⟨g, e, hp⟩ := hR; exact ⟨g, (h 10 (by decide)).symm.trans e, hp⟩
      | 11, h, hR => obtain ⟨g, e, hp⟩ := hR; exact ⟨g, (h 10 (by decide)).symm.trans e, hp⟩
      | 12, h, hR => exact (h 12 (by decide)).symm.trans hR
      | _ + 13, _, _ => exact trivial
    · intro j σ w w' hb hR
      match j, hR with
      | 0, hR => exact hR
      | 1, hR => exact hR
      | 2, hR => exact hR
      | 3, hR => exact hR
      | 4, hR => exact hR
      | 5, hR => exact hR
      | 6, hR => exact hR
      | 7, hR => exact hR
      | 8, hR => exact hR
      | 9, hR => exact hR
      | 10, hR => obtain ⟨g, e, hg, x0, x1, x2, x3, hp⟩ := hR; exact ⟨g, e, hg, x0, x1, x2, x3, hp.below hb hp.lt⟩
      | 11, hR => obtain ⟨g, e, hg, hx⟩ := hR; exact ⟨g, e, hg, hx.below hb hx.lt⟩
      | 12, hR => exact hR
      | _ + 13, _ => exact trivial
    · exact Below.drew (Below.refl _ _)
    · -- 0: Op.load 37 t3
      intro σ W' hC hw
      clear hw
      have k_h0 := (h0.below hC (by omega)).cell
      refine OpGoes.step fun K hK => ?_
      unfold OpGoes
      go_simp
      exact hK _ _ ⟨hC, rfl, Below.refl _ _⟩
    · -- 1: Op.call { value (Operand.func 20), args := #[t12], argTypes := #[37] }
      intro σ W' hC hw
      have e0 : σ 0 = .agg #[.bool a, .int .i64 b, .bool c, .int .i64 d] := hw 0 (by kernel_rfl)
      clear hw
      refine OpGoes.step fun K hK => ?_
      unfold OpGoes
      go_simp
      refine (toPlace_any _ _ _ _ _).mono ?_
      rintro e w1 ⟨rfl, hb1⟩
      exact ⟨_, rfl, hK _ _ ⟨bstep hC hC.size hb1, rfl, hb1⟩⟩
    · -- 2: Op.load 37 t4
      intro σ W' hC hw
      clear hw
      have k_h1 := (h1.below hC (by omega)).cell
      refine OpGoes.step fun K hK => ?_
      unfold OpGoes
      go_simp
      exact hK _ _ ⟨hC, rfl, Below.refl _ _⟩
    · -- 3: Op.call { value (Operand.func 20), args := #[t14], argTypes := #[37] }
      intro σ W' hC hw
      have e2 : σ 2 = .agg #[.bool a, .int .i64 b, .bool c, .int .i64 d] := hw 2 (by kernel_rfl)
      clear hw
      refine OpGoes.step fun K hK => ?_
      unfold OpGoes
      go_simp
      refine (toPlace_any _ _ _ _ _).mono ?_
      rintro e w1 ⟨rfl, hb1⟩
      exact ⟨_, rfl, hK _ _ ⟨bstep hC hC.size hb1, rfl, hb1⟩⟩
    · -- 4: Op.load 37 t5
      intro σ W' hC hw
      clear hw
      have k_h2 := (h2.below hC (by omega)).cell
      refine OpGoes.step fun K hK => ?_
      unfold OpGoes
      go_simp
      exact hK _ _ ⟨hC, rfl, Below.refl _ _⟩
    · -- 5: Op.call { value (Operand.func 20), args := #[t16], argTypes := #[37] }
      intro σ W' hC hw
      have e4 : σ 4 = .agg #[.bool a2, .int .i64 b2, .bool c2, .int .i64 d2] := hw 4 (by kernel_rfl)
      clear hw
      refine OpGoes.step fun K hK => ?_
      unfold OpGoes
      go_simp
      refine (toPlace_any _ _ _ _ _).mono ?_
      rintro e w1 ⟨rfl, hb1⟩
      exact ⟨_, rfl, hK _ _ ⟨bstep hC hC.size hb1, rfl, hb1⟩⟩
    · -- 6: Op.call { value (Operand.func 14), args := #[t13, t15, t17], argTypes := #[25, 25, 25] }
      intro σ W' hC hw
      have e1 : σ 1 = .agg #[.bool a, .int .i64 b, .bool c, .int .i64 d] := hw 1 (by kernel_rfl)
      have e3 : σ 3 = .agg #[.bool a, .int .i64 b, .bool c, .int .i64 d] := hw 3 (by kernel_rfl)
      have e5 : σ 5 = .agg #[.bool a2, .int .i64 b2, .bool c2, .int .i64 d2] := hw 5 (by kernel_rfl)
      clear hw
      refine OpGoes.step fun K hK => ?_
      unfold OpGoes
      go_simp
      refine (sswapped_yes _ _ _ _ _ _ _ _ _).mono ?_
      rintro e w1 ⟨rfl, hb1⟩
      exact ⟨_, rfl, hK _ _ ⟨bstep hC hC.size hb1, rfl, hb1⟩⟩
    · -- 7: Op.move t18
      intro σ W' hC hw
      have e6 : σ 6 = .tuple #[.agg #[.bool a2, .int .i64 b2, .bool c2, .int .i64 d2], .bool true] := hw 6 (by kernel_rfl)
      clear hw
      refine OpGoes.step fun K hK => ?_
      unfold OpGoes
      go_simp
      exact hK _ _ ⟨hC, rfl, Below.refl _ _⟩
    · -- 8: Op.extract t11 0
      intro σ W' hC hw
      have e7 : σ 7 = .tuple #[.agg #[.bool a2, .int .i64 b2, .bool c2, .int .i64 d2], .bool true] := hw 7 (by kernel_rfl)
      clear hw
      refine OpGoes.step fun K hK => ?_
      unfold OpGoes
      go_simp
      exact hK _ _ ⟨hC, rfl, Below.refl _ _⟩
    · -- 9: Op.extract t11 1
      intro σ W' hC hw
      have e7 : σ 7 = .tuple #[.agg #[.bool a2, .int .i64 b2, .bool c2, .int .i64 d2], .bool true] := hw 7 (by kernel_rfl)
      clear hw
      refine OpGoes.step fun K hK => ?_
      unfold OpGoes
      go_simp
      exact hK _ _ ⟨hC, rfl, Below.refl _ _⟩
    · -- 10: Op.alloc 25
      intro σ W' hC hw
      clear hw
      refine OpGoes.step fun K hK => ?_
      unfold OpGoes
      go_simp
      exact hK _ _ ⟨hC.alloc hC.size _, ⟨_, rfl, hC.size, _, _, _, _, BoxAt.new _ _ _⟩, (Below.refl _ _).alloc (Nat.le_refl _) _, rfl, by simp⟩
    · -- 11: Op.store 25 t7 t19
      intro σ W' hC hw hne
      have e8 : σ 8 = .agg #[.bool a2, .int .i64 b2, .bool c2, .int .i64 d2] := hw 8 (by kernel_rfl)
      obtain ⟨g10, e10, hg10, x0, x1, x2, x3, hbox10⟩ : ∃ g, σ 10 = .pointer (some ⟨g, 0, none⟩) ∧ W.heap.size ≤ g ∧ ∃ x0 x1 x2 x3, BoxAt W' g #[x0, x1, x2, x3] 25 := hw 10 (by kernel_rfl)
      clear hw
      have kb := hbox10.cell
      have kf := hbox10.frozen
      refine OpGoes.step fun K hK => ?_
      unfold OpGoes
      go_simp
      have hset := ((((hbox10.set 0 (.bool a2)).set 1 (.int .i64 b2)).set 2 (.bool c2)).set 3 (.int .i64 d2))
      simp only [List.setIfInBounds_toArray, List.set_cons_zero, List.set_cons_succ] at hset
      refine hK _ _ ⟨((((hC.setCell hg10 _).setCell hg10 _).setCell hg10 _).setCell hg10 _), ⟨g10, e10, hg10, hset⟩, by simp, fun j hj hn hR => ?_⟩
      match j, hj, hn, hR with
      | 0, _, _, hR => exact hR
      | 1, _, _, hR => exact hR
      | 2, _, _, hR => exact hR
      | 3, _, _, hR => exact hR
      | 4, _, _, hR => exact hR
      | 5, _, _, hR => exact hR
      | 6, _, _, hR => exact hR
      | 7, _, _, hR => exact hR
      | 8, _, _, hR => exact hR
      | 9, _, _, hR => exact hR
      | 10, _, _, hR => exact ⟨g10, e10, hg10, _, _, _, _, hset⟩
      | 11, hj, _, _ => exact absurd rfl hj
      | 12, _, _, hR => exact hR
      | _ + 13, _, _, _ => exact trivial
    · -- 12: Op.assign t20
      intro σ W' hC hw
      have e9 : σ 9 = .bool true := hw 9 (by kernel_rfl)
      clear hw
      refine OpGoes.step fun K hK => ?_
      unfold OpGoes
      go_simp
      exact hK _ _ ⟨hC, rfl, Below.refl _ _⟩
    · intro σ W' hC hR
      have e12 : σ 12 = _ := hR 12 (by decide)
      obtain ⟨g, e10, hg, hbox⟩ : ∃ g, σ 10 = .pointer (some ⟨g, 0, none⟩) ∧ W.heap.size ≤ g ∧ BoxAt W' g #[.bool a2, .int .i64 b2, .bool c2, .int .i64 d2] 25 := hR 11 (by decide)
      clear hR
      simp only [lexAll]
      go_simp
      go_step
      go_meet
      exact ⟨hC, g, rfl, hg, hbox, rfl⟩
  case rest =>
    obtain ⟨hb1, g1, rfl, hg1, box1, rfl⟩ := hcut
    replace h0 := h0.below hb1 l0
    replace h1 := h1.below hb1 l1
    replace h2 := h2.below hb1 l2
    replace l0 := h0.lt
    replace l1 := h1.lt
    replace l2 := h2.lt
    have l3 := box1.lt
    replace hW := bstep hW hW.size hb1
    clear hb1
    go_upto_region 2 with fail
    go_cut [9, 10] (fun s9 s10 W' => Below wc.heap.size wc W' ∧ ∃ g, s9 = .pointer (some ⟨g, 0, none⟩) ∧ wc.heap.size ≤ g ∧ BoxAt W' g #[.bool a2, .int .i64 b2, .bool c2, .int .i64 d2] 25 ∧ s10 = .bool true)
    case first =>
      refine wp_region_R (fun W' => Below wc.heap.size wc W') (swiyesR wc.heap.size a a2 c c2 b b2 d d2) swiyesK swiyesS (by kernel_rfl) (by kernel_rfl) ?_ ?_ ?_
        (.grow rfl ?_ <| .grow rfl ?_ <| .grow rfl ?_ <| .grow rfl ?_ <| .grow rfl ?_ <| .grow rfl ?_ <| .grow rfl ?_ <| .grow rfl ?_ <| .grow rfl ?_ <| .grow rfl ?_ <| .make rfl ?_ <| .store rfl ?_ <| .grow rfl ?_ <| .nil) ?_
      · intro j σ τ w h hR
        match j, h, hR with
        | 0, h, hR => exact (h 0 (by decide)).symm.trans hR
        | 1, h, hR => exact (h 1 (by decide)).symm.trans hR
        | 2, h, hR => exact (h 2 (by decide)).symm.trans hR
        | 3, h, hR => exact (h 3 (by decide)).symm.trans hR
        | 4, h, hR => exact (h 4 (by decide)).symm.trans hR
        | 5, h, hR => exact (h 5 (by decide)).symm.trans hR
        | 6, h, hR => exact (h 6 (by decide)).symm.trans hR
        | 7, h, hR => exact (h 7 (by decide)).symm.trans hR
        | 8, h, hR => exact (h 8 (by decide)).symm.trans hR
        | 9, h, hR => exact (h 9 (by decide)).symm.trans hR
        | 10, h, hR => obtain ⟨g, e, hp⟩ := hR; exact ⟨g, (h 10 (by decide)).symm.trans e, hp⟩
        | 11, h, hR => obtain ⟨g, e, hp⟩ := hR; exact ⟨g, (h 10 (by decide)).symm.trans e, hp⟩
        | 12, h, hR => exact (h 12 (by decide)).symm.trans hR
        | _ + 13, _, _ => exact trivial
      · intro j σ w w' hb hR
        match j, hR with
        | 0, hR => exact hR
        | 1, hR => exact hR
        | 2, hR => exact hR
        | 3, hR => exact hR
        | 4, hR => exact hR
        | 5, hR => exact hR
        | 6, hR => exact hR
        | 7, hR => exact hR
        | 8, hR => exact hR
        | 9, hR => exact hR
        | 10, hR => obtain ⟨g, e, hg, x0, x1, x2, x3, hp⟩ := hR; exact ⟨g, e, hg, x0, x1, x2, x3, hp.below hb hp.lt⟩
        | 11, hR => obtain ⟨g, e, hg, hx⟩ := hR; exact ⟨g, e, hg, hx.below hb hx.lt⟩
        | 12, hR => exact hR
        | _ + 13, _ => exact trivial
      · exact Below.drew (Below.refl _ _)
      · -- 0: Op.load 37 t3
        intro σ W' hC hw
        clear hw
        have k_h0 := (h0.below hC (by omega)).cell
        refine OpGoes.step fun K hK => ?_
        unfold OpGoes
        go_simp
        exact hK _ _ ⟨hC, rfl, Below.refl _ _⟩
      · -- 1: Op.call { value (Operand.func 20), args := #[t22], argTypes := #[37] }
        intro σ W' hC hw
        have e0 : σ 0 = .agg #[.bool a, .int .i64 b, .bool c, .int .i64 d] := hw 0 (by kernel_rfl)
        clear hw
        refine OpGoes.step fun K hK => ?_
        unfold OpGoes
        go_simp
        refine (toPlace_any _ _ _ _ _).mono ?_
        rintro e w1 ⟨rfl, hb1⟩
        exact ⟨_, rfl, hK _ _ ⟨bstep hC hC.size hb1, rfl, hb1⟩⟩
      · -- 2: Op.load 37 t4
        intro σ W' hC hw
        clear hw
        have k_h1 := (h1.below hC (by omega)).cell
        refine OpGoes.step fun K hK => ?_
        unfold OpGoes
        go_simp
        exact hK _ _ ⟨hC, rfl, Below.refl _ _⟩
      · -- 3: Op.call { value (Operand.func 20), args := #[t24], argTypes := #[37] }
        intro σ W' hC hw
        have e2 : σ 2 = .agg #[.bool a, .int .i64 b, .bool c, .int .i64 d] := hw 2 (by kernel_rfl)
        clear hw
        refine OpGoes.step fun K hK => ?_
        unfold OpGoes
        go_simp
        refine (toPlace_any _ _ _ _ _).mono ?_
        rintro e w1 ⟨rfl, hb1⟩
        exact ⟨_, rfl, hK _ _ ⟨bstep hC hC.size hb1, rfl, hb1⟩⟩
      · -- 4: Op.load 37 t5
        intro σ W' hC hw
        clear hw
        have k_h2 := (h2.below hC (by omega)).cell
        refine OpGoes.step fun K hK => ?_
        unfold OpGoes
        go_simp
        exact hK _ _ ⟨hC, rfl, Below.refl _ _⟩
      · -- 5: Op.call { value (Operand.func 20), args := #[t26], argTypes := #[37] }
        intro σ W' hC hw
        have e4 : σ 4 = .agg #[.bool a2, .int .i64 b2, .bool c2, .int .i64 d2] := hw 4 (by kernel_rfl)
        clear hw
        refine OpGoes.step fun K hK => ?_
        unfold OpGoes
        go_simp
        refine (toPlace_any _ _ _ _ _).mono ?_
        rintro e w1 ⟨rfl, hb1⟩
        exact ⟨_, rfl, hK _ _ ⟨bstep hC hC.size hb1, rfl, hb1⟩⟩
      · -- 6: Op.call { value (Operand.func 10), args := #[t23, t25, t27], argTypes := #[25, 25, 25] }
        intro σ W' hC hw
        have e1 : σ 1 = .agg #[.bool a, .int .i64 b, .bool c, .int .i64 d] := hw 1 (by kernel_rfl)
        have e3 : σ 3 = .agg #[.bool a, .int .i64 b, .bool c, .int .i64 d] := hw 3 (by kernel_rfl)
        have e5 : σ 5 = .agg #[.bool a2, .int .i64 b2, .bool c2, .int .i64 d2] := hw 5 (by kernel_rfl)
        clear hw
        refine OpGoes.step fun K hK => ?_
        unfold OpGoes
        go_simp
        refine (iswapped_yes _ _ _ _ _ _ _ _ _).mono ?_
        rintro e w1 ⟨rfl, hb1⟩
        exact ⟨_, rfl, hK _ _ ⟨bstep hC hC.size hb1, rfl, hb1⟩⟩
      · -- 7: Op.move t28
        intro σ W' hC hw
        have e6 : σ 6 = .tuple #[.agg #[.bool a2, .int .i64 b2, .bool c2, .int .i64 d2], .bool true] := hw 6 (by kernel_rfl)
        clear hw
        refine OpGoes.step fun K hK => ?_
        unfold OpGoes
        go_simp
        exact hK _ _ ⟨hC, rfl, Below.refl _ _⟩
      · -- 8: Op.extract t21 0
        intro σ W' hC hw
        have e7 : σ 7 = .tuple #[.agg #[.bool a2, .int .i64 b2, .bool c2, .int .i64 d2], .bool true] := hw 7 (by kernel_rfl)
        clear hw
        refine OpGoes.step fun K hK => ?_
        unfold OpGoes
        go_simp
        exact hK _ _ ⟨hC, rfl, Below.refl _ _⟩
      · -- 9: Op.extract t21 1
        intro σ W' hC hw
        have e7 : σ 7 = .tuple #[.agg #[.bool a2, .int .i64 b2, .bool c2, .int .i64 d2], .bool true] := hw 7 (by kernel_rfl)
        clear hw
        refine OpGoes.step fun K hK => ?_
        unfold OpGoes
        go_simp
        exact hK _ _ ⟨hC, rfl, Below.refl _ _⟩
      · -- 10: Op.alloc 25
        intro σ W' hC hw
        clear hw
        refine OpGoes.step fun K hK => ?_
        unfold OpGoes
        go_simp
        exact hK _ _ ⟨hC.alloc hC.size _, ⟨_, rfl, hC.size, _, _, _, _, BoxAt.new _ _ _⟩, (Below.refl _ _).alloc (Nat.le_refl _) _, rfl, by simp⟩
      · -- 11: Op.store 25 t9 t29
        intro σ W' hC hw hne
        have e8 : σ 8 = .agg #[.bool a2, .int .i64 b2, .bool c2, .int .i64 d2] := hw 8 (by kernel_rfl)
        obtain ⟨g10, e10, hg10, x0, x1, x2, x3, hbox10⟩ : ∃ g, σ 10 = .pointer (some ⟨g, 0, none⟩) ∧ wc.heap.size ≤ g ∧ ∃ x0 x1 x2 x3, BoxAt W' g #[x0, x1, x2, x3] 25 := hw 10 (by kernel_rfl)
        clear hw
        have kb := hbox10.cell
        have kf := hbox10.frozen
        refine OpGoes.step fun K hK => ?_
        unfold OpGoes
        go_simp
        have hset := ((((hbox10.set 0 (.bool a2)).set 1 (.int .i64 b2)).set 2 (.bool c2)).set 3 (.int .i64 d2))
        simp only [List.setIfInBounds_toArray, List.set_cons_zero, List.set_cons_succ] at hset
        refine hK _ _ ⟨((((hC.setCell hg10 _).setCell hg10 _).setCell hg10 _).setCell hg10 _), ⟨g10, e10, hg10, hset⟩, by simp, fun j hj hn hR => ?_⟩
        match j, hj, hn, hR with
        | 0, _, _, hR => exact hR
        | 1, _, _, hR => exact hR
        | 2, _, _, hR => exact hR
        | 3, _, _, hR => exact hR
        | 4, _, _, hR => exact hR
        | 5, _, _, hR => exact hR
        | 6, _, _, hR => exact hR
        | 7, _, _, hR => exact hR
        | 8, _, _, hR => exact hR
        | 9, _, _, hR => exact hR
        | 10, _, _, hR => exact ⟨g10, e10, hg10, _, _, _, _, hset⟩
        | 11, hj, _, _ => exact absurd rfl hj
        | 12, _, _, hR => exact hR
        | _ + 13, _, _, _ => exact trivial
      · -- 12: Op.assign t30
        intro σ W' hC hw
        have e9 : σ 9 = .bool true := hw 9 (by kernel_rfl)
        clear hw
        refine OpGoes.step fun K hK => ?_
        unfold OpGoes
        go_simp
        exact hK _ _ ⟨hC, rfl, Below.refl _ _⟩
      · intro σ W' hC hR
        have e12 : σ 12 = _ := hR 12 (by decide)
        obtain ⟨g, e10, hg, hbox⟩ : ∃ g, σ 10 = .pointer (some ⟨g, 0, none⟩) ∧ wc.heap.size ≤ g ∧ BoxAt W' g #[.bool a2, .int .i64 b2, .bool c2, .int .i64 d2] 25 := hR 11 (by decide)
        clear hR
        simp only [lexAll]
        go_simp
        go_step
        go_meet
        exact ⟨hC, g, rfl, hg, hbox, rfl⟩
    case rest =>
      rename_i wd
      obtain ⟨hb2, g2, rfl, hg2, box2, rfl⟩ := hcut
      have k1 := (box1.below hb2 l3).cell
      have k2 := box2.cell
      go_wp2_with fail
      refine (eqPlace_same _ _ _ _ _).mono ?_
      rintro e w5 ⟨rfl, hb5⟩
      go_wp2
      go_ret
      exact .mk rfl (bstep (bstep hW hW.size hb2) (Nat.le_trans hW.size hb2.size) hb5)

def swsnoR (N : Nat) (a a1 a2 c c1 c2 : Bool) (b b1 b2 d d1 d2 : Int) (j : Nat) (σ : Nat → Value) (w : World) : Prop :=
  match j with
  | 0 => σ 0 = .agg #[.bool a, .int .i64 b, .bool c, .int .i64 d]
  | 1 => σ 1 = .agg #[.bool a, .int .i64 b, .bool c, .int .i64 d]
  | 2 => σ 2 = .agg #[.bool a1, .int .i64 b1, .bool c1, .int .i64 d1]
  | 3 => σ 3 = .agg #[.bool a1, .int .i64 b1, .bool c1, .int .i64 d1]
  | 4 => σ 4 = .agg #[.bool a2, .int .i64 b2, .bool c2, .int .i64 d2]
  | 5 => σ 5 = .agg #[.bool a2, .int .i64 b2, .bool c2, .int .i64 d2]
  | 6 => σ 6 = .tuple #[.agg #[.bool a, .int .i64 b, .bool c, .int .i64 d], .bool false]
  | 7 => σ 7 = .tuple #[.agg #[.bool a, .int .i64 b, .bool c, .int .i64 d], .bool false]
  | 8 => σ 8 = .agg #[.bool a, .int .i64 b, .bool c, .int .i64 d]
  | 9 => σ 9 = .bool false
  | 10 => ∃ g, σ 10 = .pointer (some ⟨g, 0, none⟩) ∧ N ≤ g ∧ ∃ x0 x1 x2 x3, BoxAt w g #[x0, x1, x2, x3] 25
  | 11 => ∃ g, σ 10 = .pointer (some ⟨g, 0, none⟩) ∧ N ≤ g ∧ BoxAt w g #[.bool a, .int .i64 b, .bool c, .int .i64 d] 25
  | 12 => σ 12 = .bool false
  | _ => True

def swsnoS (j : Nat) : List Nat := [[0], [1], [2], [3], [4], [5], [6], [7], [8], [9], [10], [10, 11], [12]].getD j [j]
def swsnoK (j : Nat) : Nat := [0, 0, 0, 0, 0, 0, 0, 0, 0, 0, 2, 1, 0].getD j 0

def swinoR (N : Nat) (a a1 a2 c c1 c2 : Bool) (b b1 b2 d d1 d2 : Int) (j : Nat) (σ : Nat → Value) (w : World) : Prop :=
  match j with
  | 0 => σ 0 = .agg #[.bool a, .int .i64 b, .bool c, .int .i64 d]
  | 1 => σ 1 = .agg #[.bool a, .int .i64 b, .bool c, .int .i64 d]
  | 2 => σ 2 = .agg #[.bool a1, .int .i64 b1, .bool c1, .int .i64 d1]
  | 3 => σ 3 = .agg #[.bool a1, .int .i64 b1, .bool c1, .int .i64 d1]
  | 4 => σ 4 = .agg #[.bool a2, .int .i64 b2, .bool c2, .int .i64 d2]
  | 5 => σ 5 = .agg #[.bool a2, .int .i64 b2, .bool c2, .int .i64 d2]
  | 6 => σ 6 = .tuple #[.agg #[.bool a, .int .i64 b, .bool c, .int .i64 d], .bool false]
  | 7 => σ 7 = .tuple #[.agg #[.bool a, .int .i64 b, .bool c, .int .i64 d], .bool false]
  | 8 => σ 8 = .agg #[.bool a, .int .i64 b, .bool c, .int .i64 d]
  | 9 => σ 9 = .bool false
  | 10 => ∃ g, σ 10 = .pointer (some ⟨g, 0, none⟩) ∧ N ≤ g ∧ ∃ x0 x1 x2 x3, BoxAt w g #[x0, x1, x2, x3] 25
  | 11 => ∃ g, σ 10 = .pointer (some ⟨g, 0, none⟩) ∧ N ≤ g ∧ BoxAt w g #[.bool a, .int .i64 b, .bool c, .int .i64 d] 25
  | 12 => σ 12 = .bool false
  | _ => True

def swinoS (j : Nat) : List Nat := [[0], [1], [2], [3], [4], [5], [6], [7], [8], [9], [10], [10, 11], [12]].getD j [j]
def swinoK (j : Nat) : Nat := [0, 0, 0, 0, 0, 0, 0, 0, 0, 0, 2, 1, 0].getD j 0

set_option maxHeartbeats 1000000 in
theorem exactSwapped_no (a a1 a2 c c1 c2 : Bool) (b b1 b2 d d1 d2 : Int) (w : World) (h : ¬ (a = a1 ∧ b = b1 ∧ c = c1 ∧ d = d1)) :
    Calls Try.prog 5 #[.agg #[.bool a, .int .i64 b, .bool c, .int .i64 d], .agg #[.bool a1, .int .i64 b1, .bool c1, .int .i64 d1], .agg #[.bool a2, .int .i64 b2, .bool c2, .int .i64 d2]] w (RetBelow (.bool true) w) := by
  have H := Lib.hid h; clear h
  go_enter Try.func5, Try.ntmps5
  go_wp2_with fail
  refine wp_abs (fun W => Below w.heap.size w W ∧ BoxAt W w.heap.size #[.bool a, .int .i64 b, .bool c, .int .i64 d] 37 ∧ BoxAt W (w.heap.size + 1) #[.bool a1, .int .i64 b1, .bool c1, .int .i64 d1] 37 ∧ BoxAt W (w.heap.size + 1 + 1) #[.bool a2, .int .i64 b2, .bool c2, .int .i64 d2] 37) ?_ ?_
  · refine ⟨(((Below.refl _ _).alloc (Nat.le_refl _) _).alloc (by simp) _).alloc (by simp; omega) _, ?_, ?_, ?_⟩
    · exact ((BoxAt.new _ _ _).alloc _).alloc _
    · have := (BoxAt.new (w.alloc (.cells #[.bool a, .int .i64 b, .bool c, .int .i64 d] 37)) #[.bool a1, .int .i64 b1, .bool c1, .int .i64 d1] 37).alloc (.cells #[.bool a2, .int .i64 b2, .bool c2, .int .i64 d2] 37)
      simpa using this
    · have := (BoxAt.new ((w.alloc (.cells #[.bool a, .int .i64 b, .bool c, .int .i64 d] 37)).alloc (.cells #[.bool a1, .int .i64 b1, .bool c1, .int .i64 d1] 37)) #[.bool a2, .int .i64 b2, .bool c2, .int .i64 d2] 37)
      simpa using this
  rintro W ⟨hW, h0, h1, h2⟩
  have l0 := h0.lt
  have l1 := h1.lt
  have l2 := h2.lt
  go_cut [7, 8] (fun s7 s8 W' => Below W.heap.size W W' ∧ ∃ g, s7 = .pointer (some ⟨g, 0, none⟩) ∧ W.heap.size ≤ g ∧ BoxAt W' g #[.bool a, .int .i64 b, .bool c, .int .i64 d] 25 ∧ s8 = .bool false)
  case first =>
    refine wp_region_R (fun W' => Below W.heap.size W W') (swsnoR W.heap.size a a1 a2 c c1 c2 b b1 b2 d d1 d2) swsnoK swsnoS (by kernel_rfl) (by kernel_rfl) ?_ ?_ ?_
      (.grow rfl ?_ <| .grow rfl ?_ <| .grow rfl ?_ <| .grow rfl ?_ <| .grow rfl ?_ <| .grow rfl ?_ <| .grow rfl ?_ <| .grow rfl ?_ <| .grow rfl ?_ <| .grow rfl ?_ <| .make rfl ?_ <| .store rfl ?_ <| .grow rfl ?_ <| .nil) ?_
    · intro j σ τ w h hR
      match j, h, hR with
      | 0, h, hR => exact (h 0 (by decide)).symm.trans hR
      | 1, h, hR => exact (h 1 (by decide)).symm.trans hR
      | 2, h, hR => exact (h 2 (by decide)).symm.trans hR
      | 3, h, hR => exact (h 3 (by decide)).symm.trans hR
      | 4, h, hR => exact (h 4 (by decide)).symm.trans hR
      | 5, h, hR => exact (h 5 (by decide)).symm.trans hR
      | 6, h, hR => exact (h 6 (by decide)).symm.trans hR
      | 7, h, hR => exact (h 7 (by decide)).symm.trans hR
      | 8, h, hR => exact (h 8 (by decide)).symm.trans hR
      | 9, h, hR => exact (h 9 (by decide)).symm.trans hR
      | 10, h, hR => obtain ⟨g, e, hp⟩ := hR; exact ⟨g, (h 10 (by decide)).symm.trans e, hp⟩
      | 11, h, hR => obtain ⟨g, e, hp⟩ := hR; exact ⟨g, (h 10 (by decide)).symm.trans e, hp⟩
      | 12, h, hR => exact (h 12 (by decide)).symm.trans hR
      | _ + 13, _, _ => exact trivial
    · intro j σ w w' hb hR
      match j, hR with
      | 0, hR => exact hR
      | 1, hR => exact hR
      | 2, hR => exact hR
      | 3, hR => exact hR
      | 4, hR => exact hR
      | 5, hR => exact hR
      | 6, hR => exact hR
      | 7, hR => exact hR
      | 8, hR => exact hR
      | 9, hR => exact hR
      | 10, hR => obtain ⟨g, e, hg, x0, x1, x2, x3, hp⟩ := hR; exact ⟨g, e, hg, x0, x1, x2, x3, hp.below hb hp.lt⟩
      | 11, hR => obtain ⟨g, e, hg, hx⟩ := hR; exact ⟨g, e, hg, hx.below hb hx.lt⟩
      | 12, hR => exact hR
      | _ + 13, _ => exact trivial
    · exact Below.drew (Below.refl _ _)
    · -- 0: Op.load 37 t3
      intro σ W' hC hw
      clear hw
      have k_h0 := (h0.below hC (by omega)).cell
      refine OpGoes.step fun K hK => ?_
      unfold OpGoes
      go_simp
      exact hK _ _ ⟨hC, rfl, Below.refl _ _⟩
    · -- 1: Op.call { value (Operand.func 20), args := #[t12], argTypes := #[37] }
      intro σ W' hC hw
      have e0 : σ 0 = .agg #[.bool a, .int .i64 b, .bool c, .int .i64 d] := hw 0 (by kernel_rfl)
      clear hw
      refine OpGoes.step fun K hK => ?_
      unfold OpGoes
      go_simp
      refine (toPlace_any _ _ _ _ _).mono ?_
      rintro e w1 ⟨rfl, hb1⟩
      exact ⟨_, rfl, hK _ _ ⟨bstep hC hC.size hb1, rfl, hb1⟩⟩
    · -- 2: Op.load 37 t4
      intro σ W' hC hw
      clear hw
      have k_h1 := (h1.below hC (by omega)).cell
      refine OpGoes.step fun K hK => ?_
      unfold OpGoes
      go_simp
      exact hK _ _ ⟨hC, rfl, Below.refl _ _⟩
    · -- 3: Op.call { value (Operand.func 20), args := #[t14], argTypes := #[37] }
      intro σ W' hC hw
      have e2 : σ 2 = .agg #[.bool a1, .int .i64 b1, .bool c1, .int .i64 d1] := hw 2 (by kernel_rfl)
      clear hw
      refine OpGoes.step fun K hK => ?_
      unfold OpGoes
      go_simp
      refine (toPlace_any _ _ _ _ _).mono ?_
      rintro e w1 ⟨rfl, hb1⟩
      exact ⟨_, rfl, hK _ _ ⟨bstep hC hC.size hb1, rfl, hb1⟩⟩
    · -- 4: Op.load 37 t5
      intro σ W' hC hw
      clear hw
      have k_h2 := (h2.below hC (by omega)).cell
      refine OpGoes.step fun K hK => ?_
      unfold OpGoes
      go_simp
      exact hK _ _ ⟨hC, rfl, Below.refl _ _⟩
    · -- 5: Op.call { value (Operand.func 20), args := #[t16], argTypes := #[37] }
      intro σ W' hC hw
      have e4 : σ 4 = .agg #[.bool a2, .int .i64 b2, .bool c2, .int .i64 d2] := hw 4 (by kernel_rfl)
      clear hw
      refine OpGoes.step fun K hK => ?_
      unfold OpGoes
      go_simp
      refine (toPlace_any _ _ _ _ _).mono ?_
      rintro e w1 ⟨rfl, hb1⟩
      exact ⟨_, rfl, hK _ _ ⟨bstep hC hC.size hb1, rfl, hb1⟩⟩
    · -- 6: Op.call { value (Operand.func 14), args := #[t13, t15, t17], argTypes := #[25, 25, 25] }
      intro σ W' hC hw
      have e1 : σ 1 = .agg #[.bool a, .int .i64 b, .bool c, .int .i64 d] := hw 1 (by kernel_rfl)
      have e3 : σ 3 = .agg #[.bool a1, .int .i64 b1, .bool c1, .int .i64 d1] := hw 3 (by kernel_rfl)
      have e5 : σ 5 = .agg #[.bool a2, .int .i64 b2, .bool c2, .int .i64 d2] := hw 5 (by kernel_rfl)
      clear hw
      refine OpGoes.step fun K hK => ?_
      unfold OpGoes
      go_simp
      refine (sswapped_no _ _ _ _ _ _ _ _ _ _ _ _ _ H.out).mono ?_
      rintro e w1 ⟨rfl, hb1⟩
      exact ⟨_, rfl, hK _ _ ⟨bstep hC hC.size hb1, rfl, hb1⟩⟩
    · -- 7: Op.move t18
      intro σ W' hC hw
      have e6 : σ 6 = .tuple #[.agg #[.bool a, .int .i64 b, .bool c, .int .i64 d], .bool false] := hw 6 (by kernel_rfl)
      clear hw
      refine OpGoes.step fun K hK => ?_
      unfold OpGoes
      go_simp
      exact hK _ _ ⟨hC, rfl, Below.refl _ _⟩
    · -- 8: Op.extract t11 0
      intro σ W' hC hw
      have e7 : σ 7 = .tuple #[.agg #[.bool a, .int .i64 b, .bool c, .int .i64 d], .bool false] := hw 7 (by kernel_rfl)
      clear hw
      refine OpGoes.step fun K hK => ?_
      unfold OpGoes
      go_simp
      exact hK _ _ ⟨hC, rfl, Below.refl _ _⟩
    · -- 9: Op.extract t11 1
      intro σ W' hC hw
      have e7 : σ 7 = .tuple #[.agg #[.bool a, .int .i64 b, .bool c, .int .i64 d], .bool false] := hw 7 (by kernel_rfl)
      clear hw
      refine OpGoes.step fun K hK => ?_
      unfold OpGoes
      go_simp
      exact hK _ _ ⟨hC, rfl, Below.refl _ _⟩
    · -- 10: Op.alloc 25
      intro σ W' hC hw
      clear hw
      refine OpGoes.step fun K hK => ?_
      unfold OpGoes
      go_simp
      exact hK _ _ ⟨hC.alloc hC.size _, ⟨_, rfl, hC.size, _, _, _, _, BoxAt.new _ _ _⟩, (Below.refl _ _).alloc (Nat.le_refl _) _, rfl, by simp⟩
    · -- 11: Op.store 25 t7 t19
      intro σ W' hC hw hne
      have e8 : σ 8 = .agg #[.bool a, .int .i64 b, .bool c, .int .i64 d] := hw 8 (by kernel_rfl)
      obtain ⟨g10, e10, hg10, x0, x1, x2, x3, hbox10⟩ : ∃ g, σ 10 = .pointer (some ⟨g, 0, none⟩) ∧ W.heap.size ≤ g ∧ ∃ x0 x1 x2 x3, BoxAt W' g #[x0, x1, x2, x3] 25 := hw 10 (by kernel_rfl)
      clear hw
      have kb := hbox10.cell
      have kf := hbox10.frozen
      refine OpGoes.step fun K hK => ?_
      unfold OpGoes
      go_simp
      have hset := ((((hbox10.set 0 (.bool a)).set 1 (.int .i64 b)).set 2 (.bool c)).set 3 (.int .i64 d))
      simp only [List.setIfInBounds_toArray, List.set_cons_zero, List.set_cons_succ] at hset
      refine hK _ _ ⟨((((hC.setCell hg10 _).setCell hg10 _).setCell hg10 _).setCell hg10 _), ⟨g10, e10, hg10, hset⟩, by simp, fun j hj hn hR => ?_⟩
      match j, hj, hn, hR with
      | 0, _, _, hR => exact hR
      | 1, _, _, hR => exact hR
      | 2, _, _, hR => exact hR
      | 3, _, _, hR => exact hR
      | 4, _, _, hR => exact hR
      | 5, _, _, hR => exact hR
      | 6, _, _, hR => exact hR
      | 7, _, _, hR => exact hR
      | 8, _, _, hR => exact hR
      | 9, _, _, hR => exact hR
      | 10, _, _, hR => exact ⟨g10, e10, hg10, _, _, _, _, hset⟩
      | 11, hj, _, _ => exact absurd rfl hj
      | 12, _, _, hR => exact hR
      | _ + 13, _, _, _ => exact trivial
    · -- 12: Op.assign t20
      intro σ W' hC hw
      have e9 : σ 9 = .bool false := hw 9 (by kernel_rfl)
      clear hw
      refine OpGoes.step fun K hK => ?_
      unfold OpGoes
      go_simp
      exact hK _ _ ⟨hC, rfl, Below.refl _ _⟩
    · intro σ W' hC hR
      have e12 : σ 12 = _ := hR 12 (by decide)
      obtain ⟨g, e10, hg, hbox⟩ : ∃ g, σ 10 = .pointer (some ⟨g, 0, none⟩) ∧ W.heap.size ≤ g ∧ BoxAt W' g #[.bool a, .int .i64 b, .bool c, .int .i64 d] 25 := hR 11 (by decide)
      clear hR
      simp only [lexAll]
      go_simp
      go_step
      go_meet
      exact ⟨hC, g, rfl, hg, hbox, rfl⟩
  case rest =>
    obtain ⟨hb1, g1, rfl, hg1, box1, rfl⟩ := hcut
    replace h0 := h0.below hb1 l0
    replace h1 := h1.below hb1 l1
    replace h2 := h2.below hb1 l2
    replace l0 := h0.lt
    replace l1 := h1.lt
    replace l2 := h2.lt
    have l3 := box1.lt
    replace hW := bstep hW hW.size hb1
    clear hb1
    go_upto_region 2 with fail
    go_cut [9, 10] (fun s9 s10 W' => Below wc.heap.size wc W' ∧ ∃ g, s9 = .pointer (some ⟨g, 0, none⟩) ∧ wc.heap.size ≤ g ∧ BoxAt W' g #[.bool a, .int .i64 b, .bool c, .int .i64 d] 25 ∧ s10 = .bool false)
    case first =>
      refine wp_region_R (fun W' => Below wc.heap.size wc W') (swinoR wc.heap.size a a1 a2 c c1 c2 b b1 b2 d d1 d2) swinoK swinoS (by kernel_rfl) (by kernel_rfl) ?_ ?_ ?_
        (.grow rfl ?_ <| .grow rfl ?_ <| .grow rfl ?_ <| .grow rfl ?_ <| .grow rfl ?_ <| .grow rfl ?_ <| .grow rfl ?_ <| .grow rfl ?_ <| .grow rfl ?_ <| .grow rfl ?_ <| .make rfl ?_ <| .store rfl ?_ <| .grow rfl ?_ <| .nil) ?_
      · intro j σ τ w h hR
        match j, h, hR with
        | 0, h, hR => exact (h 0 (by decide)).symm.trans hR
        | 1, h, hR => exact (h 1 (by decide)).symm.trans hR
        | 2, h, hR => exact (h 2 (by decide)).symm.trans hR
        | 3, h, hR => exact (h 3 (by decide)).symm.trans hR
        | 4, h, hR => exact (h 4 (by decide)).symm.trans hR
        | 5, h, hR => exact (h 5 (by decide)).symm.trans hR
        | 6, h, hR => exact (h 6 (by decide)).symm.trans hR
        | 7, h, hR => exact (h 7 (by decide)).symm.trans hR
        | 8, h, hR => exact (h 8 (by decide)).symm.trans hR
        | 9, h, hR => exact (h 9 (by decide)).symm.trans hR
        | 10, h, hR => obtain ⟨g, e, hp⟩ := hR; exact ⟨g, (h 10 (by decide)).symm.trans e, hp⟩
        | 11, h, hR => obtain ⟨g, e, hp⟩ := hR; exact ⟨g, (h 10 (by decide)).symm.trans e, hp⟩
        | 12, h, hR => exact (h 12 (by decide)).symm.trans hR
        | _ + 13, _, _ => exact trivial
      · intro j σ w w' hb hR
        match j, hR with
        | 0, hR => exact hR
        | 1, hR => exact hR
        | 2, hR => exact hR
        | 3, hR => exact hR
        | 4, hR => exact hR
        | 5, hR => exact hR
        | 6, hR => exact hR
        | 7, hR => exact hR
        | 8, hR => exact hR
        | 9, hR => exact hR
        | 10, hR => obtain ⟨g, e, hg, x0, x1, x2, x3, hp⟩ := hR; exact ⟨g, e, hg, x0, x1, x2, x3, hp.below hb hp.lt⟩
        | 11, hR => obtain ⟨g, e, hg, hx⟩ := hR; exact ⟨g, e, hg, hx.below hb hx.lt⟩
        | 12, hR => exact hR
        | _ + 13, _ => exact trivial
      · exact Below.drew (Below.refl _ _)
      · -- 0: Op.load 37 t3
        intro σ W' hC hw
        clear hw
        have k_h0 := (h0.below hC (by omega)).cell
        refine OpGoes.step fun K hK => ?_
        unfold OpGoes
        go_simp
        exact hK _ _ ⟨hC, rfl, Below.refl _ _⟩
      · -- 1: Op.call { value (Operand.func 20), args := #[t22], argTypes := #[37] }
        intro σ W' hC hw
        have e0 : σ 0 = .agg #[.bool a, .int .i64 b, .bool c, .int .i64 d] := hw 0 (by kernel_rfl)
        clear hw
        refine OpGoes.step fun K hK => ?_
        unfold OpGoes
        go_simp
        refine (toPlace_any _ _ _ _ _).mono ?_
        rintro e w1 ⟨rfl, hb1⟩
        exact ⟨_, rfl, hK _ _ ⟨bstep hC hC.size hb1, rfl, hb1⟩⟩
      · -- 2: Op.load 37 t4
        intro σ W' hC hw
        clear hw
        have k_h1 := (h1.below hC (by omega)).cell
        refine OpGoes.step fun K hK => ?_
        unfold OpGoes
        go_simp
        exact hK _ _ ⟨hC, rfl, Below.refl _ _⟩
      · -- 3: Op.call { value (Operand.func 20), args := #[t24], argTypes := #[37] }
        intro σ W' hC hw
        have e2 : σ 2 = .agg #[.bool a1, .int .i64 b1, .bool c1, .int .i64 d1] := hw 2 (by kernel_rfl)
        clear hw
        refine OpGoes.step fun K hK => ?_
        unfold OpGoes
        go_simp
        refine (toPlace_any _ _ _ _ _).mono ?_
        rintro e w1 ⟨rfl, hb1⟩
        exact ⟨_, rfl, hK _ _ ⟨bstep hC hC.size hb1, rfl, hb1⟩⟩
      · -- 4: Op.load 37 t5
        intro σ W' hC hw
        clear hw
        have k_h2 := (h2.below hC (by omega)).cell
        refine OpGoes.step fun K hK => ?_
        unfold OpGoes
        go_simp
        exact hK _ _ ⟨hC, rfl, Below.refl _ _⟩
      · -- 5: Op.call { value (Operand.func 20), args := #[t26], argTypes := #[37] }
        intro σ W' hC hw
        have e4 : σ 4 = .agg #[.bool a2, .int .i64 b2, .bool c2, .int .i64 d2] := hw 4 (by kernel_rfl)
        clear hw
        refine OpGoes.step fun K hK => ?_
        unfold OpGoes
        go_simp
        refine (toPlace_any _ _ _ _ _).mono ?_
        rintro e w1 ⟨rfl, hb1⟩
        exact ⟨_, rfl, hK _ _ ⟨bstep hC hC.size hb1, rfl, hb1⟩⟩
      · -- 6: Op.call { value (Operand.func 10), args := #[t23, t25, t27], argTypes := #[25, 25, 25] }
        intro σ W' hC hw
        have e1 : σ 1 = .agg #[.bool a, .int .i64 b, .bool c, .int .i64 d] := hw 1 (by kernel_rfl)
        have e3 : σ 3 = .agg #[.bool a1, .int .i64 b1, .bool c1, .int .i64 d1] := hw 3 (by kernel_rfl)
        have e5 : σ 5 = .agg #[.bool a2, .int .i64 b2, .bool c2, .int .i64 d2] := hw 5 (by kernel_rfl)
        clear hw
        refine OpGoes.step fun K hK => ?_
        unfold OpGoes
        go_simp
        refine (iswapped_no _ _ _ _ _ _ _ _ _ _ _ _ _ H.out).mono ?_
        rintro e w1 ⟨rfl, hb1⟩
        exact ⟨_, rfl, hK _ _ ⟨bstep hC hC.size hb1, rfl, hb1⟩⟩
      · -- 7: Op.move t28
        intro σ W' hC hw
        have e6 : σ 6 = .tuple #[.agg #[.bool a, .int .i64 b, .bool c, .int .i64 d], .bool false] := hw 6 (by kernel_rfl)
        clear hw
        refine OpGoes.step fun K hK => ?_
        unfold OpGoes
        go_simp
        exact hK _ _ ⟨hC, rfl, Below.refl _ _⟩
      · -- 8: Op.extract t21 0
        intro σ W' hC hw
        have e7 : σ 7 = .tuple #[.agg #[.bool a, .int .i64 b, .bool c, .int .i64 d], .bool false] := hw 7 (by kernel_rfl)
        clear hw
        refine OpGoes.step fun K hK => ?_
        unfold OpGoes
        go_simp
        exact hK _ _ ⟨hC, rfl, Below.refl _ _⟩
      · -- 9: Op.extract t21 1
        intro σ W' hC hw
        have e7 : σ 7 = .tuple #[.agg #[.bool a, .int .i64 b, .bool c, .int .i64 d], .bool false] := hw 7 (by kernel_rfl)
        clear hw
        refine OpGoes.step fun K hK => ?_
        unfold OpGoes
        go_simp
        exact hK _ _ ⟨hC, rfl, Below.refl _ _⟩
      · -- 10: Op.alloc 25
        intro σ W' hC hw
        clear hw
        refine OpGoes.step fun K hK => ?_
        unfold OpGoes
        go_simp
        exact hK _ _ ⟨hC.alloc hC.size _, ⟨_, rfl, hC.size, _, _, _, _, BoxAt.new _ _ _⟩, (Below.refl _ _).alloc (Nat.le_refl _) _, rfl, by simp⟩
      · -- 11: Op.store 25 t9 t29
        intro σ W' hC hw hne
        have e8 : σ 8 = .agg #[.bool a, .int .i64 b, .bool c, .int .i64 d] := hw 8 (by kernel_rfl)
        obtain ⟨g10, e10, hg10, x0, x1, x2, x3, hbox10⟩ : ∃ g, σ 10 = .pointer (some ⟨g, 0, none⟩) ∧ wc.heap.size ≤ g ∧ ∃ x0 x1 x2 x3, BoxAt W' g #[x0, x1, x2, x3] 25 := hw 10 (by kernel_rfl)
        clear hw
        have kb := hbox10.cell
        have kf := hbox10.frozen
        refine OpGoes.step fun K hK => ?_
        unfold OpGoes
        go_simp
        have hset := ((((hbox10.set 0 (.bool a)).set 1 (.int .i64 b)).set 2 (.bool c)).set 3 (.int .i64 d))
        simp only [List.setIfInBounds_toArray, List.set_cons_zero, List.set_cons_succ] at hset
        refine hK _ _ ⟨((((hC.setCell hg10 _).setCell hg10 _).setCell hg10 _).setCell hg10 _), ⟨g10, e10, hg10, hset⟩, by simp, fun j hj hn hR => ?_⟩
        match j, hj, hn, hR with
        | 0, _, _, hR => exact hR
        | 1, _, _, hR => exact hR
        | 2, _, _, hR => exact hR
        | 3, _, _, hR => exact hR
        | 4, _, _, hR => exact hR
        | 5, _, _, hR => exact hR
        | 6, _, _, hR => exact hR
        | 7, _, _, hR => exact hR
        | 8, _, _, hR => exact hR
        | 9, _, _, hR => exact hR
        | 10, _, _, hR => exact ⟨g10, e10, hg10, _, _, _, _, hset⟩
        | 11, hj, _, _ => exact absurd rfl hj
        | 12, _, _, hR => exact hR
        | _ + 13, _, _, _ => exact trivial
      · -- 12: Op.assign t30
        intro σ W' hC hw
        have e9 : σ 9 = .bool false := hw 9 (by kernel_rfl)
        clear hw
        refine OpGoes.step fun K hK => ?_
        unfold OpGoes
        go_simp
        exact hK _ _ ⟨hC, rfl, Below.refl _ _⟩
      · intro σ W' hC hR
        have e12 : σ 12 = _ := hR 12 (by decide)
        obtain ⟨g, e10, hg, hbox⟩ : ∃ g, σ 10 = .pointer (some ⟨g, 0, none⟩) ∧ wc.heap.size ≤ g ∧ BoxAt W' g #[.bool a, .int .i64 b, .bool c, .int .i64 d] 25 := hR 11 (by decide)
        clear hR
        simp only [lexAll]
        go_simp
        go_step
        go_meet
        exact ⟨hC, g, rfl, hg, hbox, rfl⟩
    case rest =>
      rename_i wd
      obtain ⟨hb2, g2, rfl, hg2, box2, rfl⟩ := hcut
      have k1 := (box1.below hb2 l3).cell
      have k2 := box2.cell
      go_wp2_with fail
      refine (eqPlace_same _ _ _ _ _).mono ?_
      rintro e w5 ⟨rfl, hb5⟩
      go_wp2
      go_ret
      exact .mk rfl (bstep (bstep hW hW.size hb2) (Nat.le_trans hW.size hb2.size) hb5)

end Go.Proofs.Ytdbnghlabhgigaa
