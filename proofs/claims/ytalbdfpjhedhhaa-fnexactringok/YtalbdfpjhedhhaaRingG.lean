/-
  The walks of the laws on RingOk and on PlaceAt.
-/
import Derived.Test.YtalbdfpjhedhhaaRingF
import Derived.Test.YtalbdfpjhedhhaaGrow
namespace Go.Proofs.Ytalbdfpjhedhhaa
open Go.RowKit Go.ChangeShapes Go.WideShapes Go.ChangeAt Go.Joins
set_option linter.unusedVariables false
attribute [local go_sem] OpUpon

attribute [local go_sem ↓] Go.wp_at_zero Go.wp_at_succ

def exactRingOkDR (_N : Nat) (h t : Int) (c : Bool) (x : Int) (A : Option Addr) (n cap : Nat) (l : List Pl) (X m : Nat) (j : Nat) (σ : Nat → Value) (w : World) : Prop :=
  match j with
  | 0 => σ 0 = .agg #[.int .i64 h, .int .i64 t, .bool c, .int .i64 x, .slice (some ⟨X, 0, none⟩) n m]
  | 1 => σ 1 = .agg #[.int .i64 h, .int .i64 t, .bool c, .int .i64 x, .slice A n cap]
  | 2 => ∃ (g d : Nat), σ 2 = .agg #[.int .i64 h, .int .i64 t, .bool c, .int .i64 x, .slice (some ⟨g, 0, none⟩) n d] ∧ PlsO 0 w g n d l
  | 3 => σ 3 = .bool true
  | 4 => σ 4 = .bool false
  | _ => True

def exactRingOkDS (j : Nat) : List Nat := [[0], [1], [2], [3], [4]].getD j [j]
def exactRingOkDK (j : Nat) : Nat := [0, 0, 0, 0, 0].getD j 0

set_option maxRecDepth 100000 in
set_option maxHeartbeats 1000000 in
theorem exactRingOk_small (h t : Int) (c : Bool) (x : Int) (A : Option Addr) (n cap : Nat) (l : List Pl) (w : World) (hl0 : PlsR 0 w A n l) (hn : n ≤ 1048576) :
    Calls Try.prog 4 #[rgV h t c x A n cap] w (RetBelow (.bool true) w) := by
  have hs : 0 ≤ szI 1048576 n := by unfold szI; rw [if_pos (by omega)]; omega
  unfold rgV
  go_enter Try.func4, Try.ntmps4
  go_wp2_with fail
  refine calls_abs (fun W => Below w.heap.size w W ∧ BoxAt W w.heap.size #[.int .i64 h, .int .i64 t, .bool c, .int .i64 x, .slice A n cap] 42) ⟨(Below.refl _ _).alloc (Nat.le_refl _) _, BoxAt.new _ _ _⟩ ?_
  rintro W ⟨hB, ha⟩
  refine (szRing_any h t c x A n cap 1048576 _ (by unfold maxLen; omega) (by omega) (by omega)).mono ?_
  rintro e w1 ⟨rfl, hb1⟩
  generalize szI 1048576 n = z at *
  replace ha := ha.below hb1 ha.lt
  replace hB := bstep hB hB.size hb1
  clear hb1
  have la := ha.lt
  have ka := ha.cell
  go_wp2_with fail
  refine (toRing_any h t c x A n cap l _ (hl0.below hB) hn).mono ?_
  rintro e w2 ⟨g1, d1, rfl, hO1, hb2⟩
  unfold rgV
  replace ha := ha.below hb2 ha.lt
  replace hB := bstep hB hB.size hb2
  clear hb2 ka
  go_wp2_with fail
  refine (sringOk_any h t c x _ n _ l _ (hO1.r.mono (Nat.zero_le _)) hn).mono ?_
  rintro e w3 ⟨rfl, hb3⟩
  replace ha := ha.below hb3 ha.lt
  replace hB := bstep hB hB.size hb3
  clear hb3 hO1
  have ka := ha.cell
  go_wp2_with fail
  refine (toRing_any h t c x A n cap l _ (hl0.below hB) hn).mono ?_
  rintro e w4 ⟨X, m, rfl, hX, hb4⟩
  unfold rgV
  replace ha := ha.below hb4 ha.lt
  replace hX := hX.mono hB.size
  replace hB := bstep hB hB.size hb4
  clear hb4 ka
  go_wp2_with fail
  refine calls_abs (fun W' => Below w.heap.size w W' ∧ BoxAt W' w.heap.size #[.int .i64 h, .int .i64 t, .bool c, .int .i64 x, .slice A n cap] 42 ∧ BoxAt W' w4.heap.size #[.int .i64 h, .int .i64 t, .bool c, .int .i64 x, .slice (some ⟨X, 0, none⟩) n m] 27 ∧ PlsO w.heap.size W' X n m l) ⟨hB.alloc hB.size _, ha.alloc _, BoxAt.new _ _ _, hX.al _⟩ ?_
  generalize w4.heap.size = Y at *
  clear ha hX hB
  rintro W4 ⟨hB, ha, hx0, hX⟩
  refine (iringOk_any h t c x _ n _ l _ (hX.r.mono (Nat.zero_le _)) hn).mono ?_
  rintro e w5 ⟨rfl, hb5⟩
  replace ha := ha.below hb5 ha.lt
  replace hx0 := hx0.below hb5 hx0.lt
  replace hX := hX.below hb5
  replace hB := bstep hB hB.size hb5
  clear hb5
  generalize rgOk h t c x l = v0 at *
  go_upto_region 10 with fail
  refine wp_abs (fun W' => Below w.heap.size w W' ∧ BoxAt W' w.heap.size #[.int .i64 h, .int .i64 t, .bool c, .int .i64 x, .slice A n cap] 42 ∧ BoxAt W' Y #[.int .i64 h, .int .i64 t, .bool c, .int .i64 x, .slice (some ⟨X, 0, none⟩) n m] 27 ∧ PlsO w.heap.size W' X n m l) ⟨hB, ha, hx0, hX⟩ ?_
  clear hB ha hx0 hX
  rintro W5 ⟨hB, ha, hx0, hX0⟩
  have hl := hl0.below hB
  have hX := hX0.mono (Nat.zero_le _)
  have l1 := ha.lt
  have l2 := hx0.lt
  go_cut [26] (fun s W' => Below W5.heap.size W5 W' ∧ s = .bool false)
  case first =>
    refine wp_region_R (fun W' => Below W5.heap.size W5 W') (exactRingOkDR W5.heap.size h t c x A n cap l X m) exactRingOkDK exactRingOkDS (by kernel_rfl) (by kernel_rfl) ?_ ?_ ?_
      (.grow rfl ?_ <| .grow rfl ?_ <| .grow rfl ?_ <| .grow rfl ?_ <| .grow rfl ?_ <| .nil) ?_
    · intro j σ τ w h hR
      match j, h, hR with
      | 0, h, hR => exact (h 0 (by decide)).symm.trans hR
      | 1, h, hR => exact (h 1 (by decide)).symm.trans hR
      | 2, h, hR => obtain ⟨g, d, e, hp⟩ := hR; exact ⟨g, d, (h 2 (by decide)).symm.trans e, hp⟩
      | 3, h, hR => exact (h 3 (by decide)).symm.trans hR
      | 4, h, hR => exact (h 4 (by decide)).symm.trans hR
      | _ + 5, _, _ => exact trivial
    · intro j σ w w' hb hR
      match j, hR with
      | 0, hR => exact hR
      | 1, hR => exact hR
      | 2, hR => obtain ⟨g, d, e, hp⟩ := hR; exact ⟨g, d, e, hp.below hb⟩
      | 3, hR => exact hR
      | 4, hR => exact hR
      | _ + 5, _ => exact trivial
    · exact Below.drew (Below.refl _ _)
    · -- 0: Op.load 27 t5
      intro σ W' hC hw
      clear hw
      have k_hx0 := (hx0.below hC (by omega)).cell
      refine OpGoes.step fun K hK => ?_
      unfold OpGoes
      go_simp
      exact hK _ _ ⟨hC, rfl, Below.refl _ _⟩
    · -- 1: Op.load 42 t1
      intro σ W' hC hw
      clear hw
      have k_ha := (ha.below hC (by omega)).cell
      refine OpGoes.step fun K hK => ?_
      unfold OpGoes
      go_simp
      exact hK _ _ ⟨hC, rfl, Below.refl _ _⟩
    · -- 2: Op.call { value (Operand.func 22), args := #[t23], argTypes := #[42] }
      intro σ W' hC hw
      have e1 : σ 1 = .agg #[.int .i64 h, .int .i64 t, .bool c, .int .i64 x, .slice A n cap] := hw 1 (by kernel_rfl)
      clear hw
      refine OpGoes.step fun K hK => ?_
      unfold OpGoes
      go_simp
      refine (toRing_any h t c x A n cap l _ (hl.below hC) hn).mono ?_
      rintro e w1 ⟨g, d, rfl, hO, hb1⟩
      exact ⟨_, rfl, hK _ _ ⟨bstep hC hC.size hb1, ⟨g, d, rfl, hO.mono (Nat.zero_le _)⟩, hb1⟩⟩
    · -- 3: Op.call { value (Operand.func 23), args := #[t22, t24], argTypes := #[27, 27] }
      intro σ W' hC hw
      have e0 : σ 0 = .agg #[.int .i64 h, .int .i64 t, .bool c, .int .i64 x, .slice (some ⟨X, 0, none⟩) n m] := hw 0 (by kernel_rfl)
      obtain ⟨g_2, d_2, e2, hp2⟩ : ∃ (g d : Nat), σ 2 = .agg #[.int .i64 h, .int .i64 t, .bool c, .int .i64 x, .slice (some ⟨g, 0, none⟩) n d] ∧ PlsO 0 W' g n d l := hw 2 (by kernel_rfl)
      clear hw
      refine OpGoes.step fun K hK => ?_
      unfold OpGoes
      go_simp
      refine (eqRing_same h t c x _ _ n _ _ l _ (hX.r.below hC) hp2.r hn).mono ?_
      rintro e w1 ⟨rfl, hb1⟩
      exact ⟨_, rfl, hK _ _ ⟨bstep hC hC.size hb1, rfl, hb1⟩⟩
    · -- 4: Op.unOp UnOp.not 4 t25
      intro σ W' hC hw
      have e3 : σ 3 = .bool true := hw 3 (by kernel_rfl)
      clear hw
      refine OpGoes.step fun K hK => ?_
      unfold OpGoes
      go_simp
      exact hK _ _ ⟨hC, rfl, Below.refl _ _⟩
    · intro σ W' hC hR
      have e4 : σ 4 = .bool false := hR 4 (by decide)
      clear hR
      simp only [lexAll]
      go_simp
      go_step
      go_meet
      exact ⟨hC, rfl⟩
  case rest =>
    obtain ⟨hb6, rfl⟩ := hcut
    go_wp2
    go_ret
    exact .mk rfl (bstep hB hB.size hb6)

set_option maxHeartbeats 400000 in
theorem exactRingOk_big (h t : Int) (c : Bool) (x : Int) (A : Option Addr) (n cap : Nat) (w : World) (hm : n ≤ maxLen) (hn : ¬ n ≤ 1048576) :
    Calls Try.prog 4 #[rgV h t c x A n cap] w (RetBelow (.bool true) w) := by
  have hs : szI 1048576 n = -1 := by unfold szI; rw [if_neg (by omega)]
  unfold rgV
  go_enter Try.func4, Try.ntmps4
  go_wp2_with fail
  refine calls_abs (fun W => Below w.heap.size w W) ((Below.refl _ _).alloc (Nat.le_refl _) _) ?_
  rintro W hB
  refine (szRing_any h t c x A n cap 1048576 _ hm (by omega) (by omega)).mono ?_
  rintro e w1 ⟨rfl, hb1⟩
  rw [hs]
  go_wp2
  go_ret
  exact .mk rfl (bstep hB hB.size hb1)

theorem exactRingOk_any (h t : Int) (c : Bool) (x : Int) (A : Option Addr) (n cap : Nat) (l : List Pl) (w : World) (hl : PlsR 0 w A n l) (hm : n ≤ maxLen) :
    Calls Try.prog 4 #[rgV h t c x A n cap] w (RetBelow (.bool true) w) := by
  by_cases hn : n ≤ 1048576
  · exact exactRingOk_small h t c x A n cap l  w hl hn
  · exact exactRingOk_big h t c x A n cap  w hm hn

def exactPlaceAtDR (_N : Nat) (h t : Int) (c : Bool) (x : Int) (A : Option Addr) (n cap : Nat) (l : List Pl) (X m : Nat) (j : Nat) (σ : Nat → Value) (w : World) : Prop :=
  match j with
  | 0 => σ 0 = .agg #[.int .i64 h, .int .i64 t, .bool c, .int .i64 x, .slice (some ⟨X, 0, none⟩) n m]
  | 1 => σ 1 = .agg #[.int .i64 h, .int .i64 t, .bool c, .int .i64 x, .slice A n cap]
  | 2 => ∃ (g d : Nat), σ 2 = .agg #[.int .i64 h, .int .i64 t, .bool c, .int .i64 x, .slice (some ⟨g, 0, none⟩) n d] ∧ PlsO 0 w g n d l
  | 3 => σ 3 = .bool true
  | 4 => σ 4 = .bool false
  | _ => True

def exactPlaceAtDS (j : Nat) : List Nat := [[0], [1], [2], [3], [4]].getD j [j]
def exactPlaceAtDK (j : Nat) : Nat := [0, 0, 0, 0, 0].getD j 0

set_option maxRecDepth 100000 in
set_option maxHeartbeats 1000000 in
theorem exactPlaceAt_small (h t : Int) (c : Bool) (x : Int) (A : Option Addr) (n cap : Nat) (l : List Pl) (z0 : Int) (w : World) (hl0 : PlsR 0 w A n l) (hn : n ≤ 1048576) :
    Calls Try.prog 7 #[rgV h t c x A n cap, .int .i64 z0] w (RetBelow (.bool true) w) := by
  have hs : 0 ≤ szI 1048576 n := by unfold szI; rw [if_pos (by omega)]; omega
  unfold rgV
  go_enter Try.func7, Try.ntmps7
  go_wp2_with fail
  refine calls_abs (fun W => Below w.heap.size w W ∧ BoxAt W w.heap.size #[.int .i64 h, .int .i64 t, .bool c, .int .i64 x, .slice A n cap] 42) ⟨(Below.refl _ _).alloc (Nat.le_refl _) _, BoxAt.new _ _ _⟩ ?_
  rintro W ⟨hB, ha⟩
  refine (szRing_any h t c x A n cap 1048576 _ (by unfold maxLen; omega) (by omega) (by omega)).mono ?_
  rintro e w1 ⟨rfl, hb1⟩
  generalize szI 1048576 n = z at *
  replace ha := ha.below hb1 ha.lt
  replace hB := bstep hB hB.size hb1
  clear hb1
  have la := ha.lt
  have ka := ha.cell
  go_wp2_with fail
  refine (toRing_any h t c x A n cap l _ (hl0.below hB) hn).mono ?_
  rintro e w2 ⟨g1, d1, rfl, hO1, hb2⟩
  unfold rgV
  replace ha := ha.below hb2 ha.lt
  replace hB := bstep hB hB.size hb2
  clear hb2 ka
  go_wp2_with fail
  refine (splaceAt_any h t c x _ n _ l _ _ (hO1.r.mono (Nat.zero_le _)) hn).mono ?_
  rintro e w3 ⟨rfl, hb3⟩
  replace ha := ha.below hb3 ha.lt
  replace hB := bstep hB hB.size hb3
  clear hb3 hO1
  have ka := ha.cell
  go_wp2_with fail
  refine (toRing_any h t c x A n cap l _ (hl0.below hB) hn).mono ?_
  rintro e w4 ⟨X, m, rfl, hX, hb4⟩
  unfold rgV
  replace ha := ha.below hb4 ha.lt
  replace hX := hX.mono hB.size
  replace hB := bstep hB hB.size hb4
  clear hb4 ka
  go_wp2_with fail
  refine calls_abs (fun W' => Below w.heap.size w W' ∧ BoxAt W' w.heap.size #[.int .i64 h, .int .i64 t, .bool c, .int .i64 x, .slice A n cap] 42 ∧ BoxAt W' w4.heap.size #[.int .i64 h, .int .i64 t, .bool c, .int .i64 x, .slice (some ⟨X, 0, none⟩) n m] 27 ∧ PlsO w.heap.size W' X n m l) ⟨hB.alloc hB.size _, ha.alloc _, BoxAt.new _ _ _, hX.al _⟩ ?_
  generalize w4.heap.size = Y at *
  clear ha hX hB
  rintro W4 ⟨hB, ha, hx0, hX⟩
  refine (iplaceAt_any h t c x _ n _ l _ _ (hX.r.mono (Nat.zero_le _)) hn).mono ?_
  rintro e w5 ⟨rfl, hb5⟩
  replace ha := ha.below hb5 ha.lt
  replace hx0 := hx0.below hb5 hx0.lt
  replace hX := hX.below hb5
  replace hB := bstep hB hB.size hb5
  clear hb5
  generalize placeAt h t c x l z0 = v0 at *
  go_upto_region 10 with fail
  refine wp_abs (fun W' => Below w.heap.size w W' ∧ BoxAt W' w.heap.size #[.int .i64 h, .int .i64 t, .bool c, .int .i64 x, .slice A n cap] 42 ∧ BoxAt W' Y #[.int .i64 h, .int .i64 t, .bool c, .int .i64 x, .slice (some ⟨X, 0, none⟩) n m] 27 ∧ PlsO w.heap.size W' X n m l) ⟨hB, ha, hx0, hX⟩ ?_
  clear hB ha hx0 hX
  rintro W5 ⟨hB, ha, hx0, hX0⟩
  have hl := hl0.below hB
  have hX := hX0.mono (Nat.zero_le _)
  have l1 := ha.lt
  have l2 := hx0.lt
  go_cut [30] (fun s W' => Below W5.heap.size W5 W' ∧ s = .bool false)
  case first =>
    refine wp_region_R (fun W' => Below W5.heap.size W5 W') (exactPlaceAtDR W5.heap.size h t c x A n cap l X m) exactPlaceAtDK exactPlaceAtDS (by kernel_rfl) (by kernel_rfl) ?_ ?_ ?_
      (.grow rfl ?_ <| .grow rfl ?_ <| .grow rfl ?_ <| .grow rfl ?_ <| .grow rfl ?_ <| .nil) ?_
    · intro j σ τ w h hR
      match j, h, hR with
      | 0, h, hR => exact (h 0 (by decide)).symm.trans hR
      | 1, h, hR => exact (h 1 (by decide)).symm.trans hR
      | 2, h, hR => obtain ⟨g, d, e, hp⟩ := hR; exact ⟨g, d, (h 2 (by decide)).symm.trans e, hp⟩
      | 3, h, hR => exact (h 3 (by decide)).symm.trans hR
      | 4, h, hR => exact (h 4 (by decide)).symm.trans hR
      | _ + 5, _, _ => exact trivial
    · intro j σ w w' hb hR
      match j, hR with
      | 0, hR => exact hR
      | 1, hR => exact hR
      | 2, hR => obtain ⟨g, d, e, hp⟩ := hR; exact ⟨g, d, e, hp.below hb⟩
      | 3, hR => exact hR
      | 4, hR => exact hR
      | _ + 5, _ => exact trivial
    · exact Below.drew (Below.refl _ _)
    · -- 0: Op.load 27 t7
      intro σ W' hC hw
      clear hw
      have k_hx0 := (hx0.below hC (by omega)).cell
      refine OpGoes.step fun K hK => ?_
      unfold OpGoes
      go_simp
      exact hK _ _ ⟨hC, rfl, Below.refl _ _⟩
    · -- 1: Op.load 42 t2
      intro σ W' hC hw
      clear hw
      have k_ha := (ha.below hC (by omega)).cell
      refine OpGoes.step fun K hK => ?_
      unfold OpGoes
      go_simp
      exact hK _ _ ⟨hC, rfl, Below.refl _ _⟩
    · -- 2: Op.call { value (Operand.func 22), args := #[t27], argTypes := #[42] }
      intro σ W' hC hw
      have e1 : σ 1 = .agg #[.int .i64 h, .int .i64 t, .bool c, .int .i64 x, .slice A n cap] := hw 1 (by kernel_rfl)
      clear hw
      refine OpGoes.step fun K hK => ?_
      unfold OpGoes
      go_simp
      refine (toRing_any h t c x A n cap l _ (hl.below hC) hn).mono ?_
      rintro e w1 ⟨g, d, rfl, hO, hb1⟩
      exact ⟨_, rfl, hK _ _ ⟨bstep hC hC.size hb1, ⟨g, d, rfl, hO.mono (Nat.zero_le _)⟩, hb1⟩⟩
    · -- 3: Op.call { value (Operand.func 23), args := #[t26, t28], argTypes := #[27, 27] }
      intro σ W' hC hw
      have e0 : σ 0 = .agg #[.int .i64 h, .int .i64 t, .bool c, .int .i64 x, .slice (some ⟨X, 0, none⟩) n m] := hw 0 (by kernel_rfl)
      obtain ⟨g_2, d_2, e2, hp2⟩ : ∃ (g d : Nat), σ 2 = .agg #[.int .i64 h, .int .i64 t, .bool c, .int .i64 x, .slice (some ⟨g, 0, none⟩) n d] ∧ PlsO 0 W' g n d l := hw 2 (by kernel_rfl)
      clear hw
      refine OpGoes.step fun K hK => ?_
      unfold OpGoes
      go_simp
      refine (eqRing_same h t c x _ _ n _ _ l _ (hX.r.below hC) hp2.r hn).mono ?_
      rintro e w1 ⟨rfl, hb1⟩
      exact ⟨_, rfl, hK _ _ ⟨bstep hC hC.size hb1, rfl, hb1⟩⟩
    · -- 4: Op.unOp UnOp.not 4 t29
      intro σ W' hC hw
      have e3 : σ 3 = .bool true := hw 3 (by kernel_rfl)
      clear hw
      refine OpGoes.step fun K hK => ?_
      unfold OpGoes
      go_simp
      exact hK _ _ ⟨hC, rfl, Below.refl _ _⟩
    · intro σ W' hC hR
      have e4 : σ 4 = .bool false := hR 4 (by decide)
      clear hR
      simp only [lexAll]
      go_simp
      go_step
      go_meet
      exact ⟨hC, rfl⟩
  case rest =>
    obtain ⟨hb6, rfl⟩ := hcut
    go_wp2
    go_ret
    exact .mk rfl (bstep hB hB.size hb6)

set_option maxHeartbeats 400000 in
theorem exactPlaceAt_big (h t : Int) (c : Bool) (x : Int) (A : Option Addr) (n cap : Nat) (z0 : Int) (w : World) (hm : n ≤ maxLen) (hn : ¬ n ≤ 1048576) :
    Calls Try.prog 7 #[rgV h t c x A n cap, .int .i64 z0] w (RetBelow (.bool true) w) := by
  have hs : szI 1048576 n = -1 := by unfold szI; rw [if_neg (by omega)]
  unfold rgV
  go_enter Try.func7, Try.ntmps7
  go_wp2_with fail
  refine calls_abs (fun W => Below w.heap.size w W) ((Below.refl _ _).alloc (Nat.le_refl _) _) ?_
  rintro W hB
  refine (szRing_any h t c x A n cap 1048576 _ hm (by omega) (by omega)).mono ?_
  rintro e w1 ⟨rfl, hb1⟩
  rw [hs]
  go_wp2
  go_ret
  exact .mk rfl (bstep hB hB.size hb1)

theorem exactPlaceAt_any (h t : Int) (c : Bool) (x : Int) (A : Option Addr) (n cap : Nat) (l : List Pl) (z0 : Int) (w : World) (hl : PlsR 0 w A n l) (hm : n ≤ maxLen) :
    Calls Try.prog 7 #[rgV h t c x A n cap, .int .i64 z0] w (RetBelow (.bool true) w) := by
  by_cases hn : n ≤ 1048576
  · exact exactPlaceAt_small h t c x A n cap l z0 w hl hn
  · exact exactPlaceAt_big h t c x A n cap z0 w hm hn

end Go.Proofs.Ytalbdfpjhedhhaa
