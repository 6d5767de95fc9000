/-
  The walk of the law on StoreOk.
-/
import Derived.Test.YtnebllfmnandgaaStoreJ
import Derived.Test.YtnebllfmnandgaaIterE
import Derived.Test.YtnebllfmnandgaaStoreB
import Derived.Test.YtnebllfmnandgaaGrow
namespace Go.Proofs.Ytnebllfmnandgaa
open Go.RowKit Go.ChangeShapes Go.WideShapes Go.ChangeAt Go.Joins
set_option linter.unusedVariables false
attribute [local go_sem] OpUpon

attribute [local go_sem ↓] Go.wp_at_zero Go.wp_at_succ

theorem small_of {s : St} (h : szL 1048576 s.rs ≠ -1) : Small s := by
  rcases szL_or s.rs (left := 1048576) (by omega) with h' | ⟨_, _, h'⟩
  · exact absurd h' h
  · exact ⟨by omega, by omega⟩

def exactStoreOkDR (_N : Nat) (s : St) (A : Option Addr) (n cap : Nat) (X : Option Addr) (m : Nat) (j : Nat) (σ : Nat → Value) (w : World) : Prop :=
  match j with
  | 0 => σ 0 = .agg #[.int .i64 s.rd, .int .i64 s.mo, .slice X n m, .int .i64 s.fi, .int .i64 s.la]
  | 1 => σ 1 = .agg #[.int .i64 s.rd, .int .i64 s.mo, .slice A n cap, .int .i64 s.fi, .int .i64 s.la]
  | 2 => ∃ (g : Option Addr) (d : Nat), σ 2 = .agg #[.int .i64 s.rd, .int .i64 s.mo, .slice g n d, .int .i64 s.fi, .int .i64 s.la] ∧ RgsR 0 w g n s.rs
  | 3 => σ 3 = .bool true
  | 4 => σ 4 = .bool false
  | _ => True

def exactStoreOkDS (j : Nat) : List Nat := [[0], [1], [2], [3], [4]].getD j [j]
def exactStoreOkDK (j : Nat) : Nat := [0, 0, 0, 0, 0].getD j 0

set_option maxRecDepth 100000 in
set_option maxHeartbeats 2000000 in
theorem exactStoreOk_small (s : St) (A : Option Addr) (n cap : Nat) (w : World) (hl0 : RgsR 0 w A n s.rs) (hn : n ≤ maxLen) (hs : szL 1048576 s.rs ≠ -1) :
    Calls Try.prog 4 #[stV s A n cap] w (RetBelow (.bool true) w) := by
  have HS := Lib.hid (small_of hs)
  have HL := Lib.hid hl0.1
  have hn1 : n ≤ 1048576 := by have := HS.out.1; have := hl0.1; omega
  have hz : 0 ≤ szL 1048576 s.rs := by rcases szL_or s.rs (left := 1048576) (by omega) with h | h; exact absurd h hs; exact h.1
  clear hs
  unfold stV
  go_enter Try.func4, Try.ntmps4
  go_wp2_with fail
  refine calls_abs (fun W => Below w.heap.size w W ∧ BoxAt W w.heap.size #[.int .i64 s.rd, .int .i64 s.mo, .slice A n cap, .int .i64 s.fi, .int .i64 s.la] 42) ⟨(Below.refl _ _).alloc (Nat.le_refl _) _, BoxAt.new _ _ _⟩ ?_
  rintro W ⟨hB, ha⟩
  refine (szStore_any s A n cap 1048576 _ (hl0.below hB) hn (by omega) (by omega)).mono ?_
  rintro e w1 ⟨rfl, hb1⟩
  generalize szL 1048576 s.rs = z at *
  replace ha := ha.below hb1 ha.lt
  replace hB := bstep hB hB.size hb1
  clear hb1
  have la := ha.lt
  have ka := ha.cell
  go_wp2_with fail
  refine (toStore_any s A n cap _ (hl0.below hB) hn1 HS.out.each).mono ?_
  rintro e w2 ⟨A1, n1, d1, rfl, hO1, hb2⟩
  obtain rfl : n1 = n := hO1.1.symm.trans HL.out
  unfold stV
  replace ha := ha.below hb2 ha.lt
  replace hB := bstep hB hB.size hb2
  clear hb2 ka
  go_wp2_with fail
  refine (sstoreOk_any s A1 n1 d1 _ _ _ hO1.toW (Nat.le_refl _) hn1 HS.out.each).mono ?_
  rintro e w3 ⟨rfl, hb3⟩
  replace ha := ha.below hb3 ha.lt
  replace hB := bstep hB hB.size hb3
  clear hb3 hO1
  have ka := ha.cell
  go_wp2_with fail
  refine (toStore_any s A n1 cap _ (hl0.below hB) hn1 HS.out.each).mono ?_
  rintro e w4 ⟨X, n2, m, rfl, hX, hb4⟩
  obtain rfl : n2 = n1 := hX.1.symm.trans HL.out
  unfold stV
  replace ha := ha.below hb4 ha.lt
  replace hX := hX.mono hB.size (Nat.le_refl _)
  replace hB := bstep hB hB.size hb4
  clear hb4 ka
  go_wp2_with fail
  refine calls_abs (fun W' => Below w.heap.size w W' ∧ BoxAt W' w.heap.size #[.int .i64 s.rd, .int .i64 s.mo, .slice A n2 cap, .int .i64 s.fi, .int .i64 s.la] 42 ∧ BoxAt W' w4.heap.size #[.int .i64 s.rd, .int .i64 s.mo, .slice X n2 m, .int .i64 s.fi, .int .i64 s.la] 47 ∧ RgsD w.heap.size w4.heap.size W' X n2 m s.rs ∧ w4.heap.size < W'.heap.size) ⟨hB.alloc hB.size _, ha.alloc _, BoxAt.new _ _ _, hX.keep (.alloc (Nat.le_refl _) _), by simp⟩ ?_
  generalize w4.heap.size = Y at *
  clear ha hX hB
  rintro W4 ⟨hB, ha, hx0, hX, lY⟩
  refine (istoreOk_any s X n2 m _ _ _ hX.toW (by omega) hn1 HS.out.each).mono ?_
  rintro e w5 ⟨rfl, hb5⟩
  replace ha := ha.below hb5 ha.lt
  replace hx0 := hx0.below hb5 hx0.lt
  replace hX := hX.below hb5 (by omega)
  replace hB := bstep hB hB.size hb5
  clear hb5
  generalize stOk s = v0 at *
  go_upto_region 10 with fail
  refine wp_abs (fun W' => Below w.heap.size w W' ∧ BoxAt W' w.heap.size #[.int .i64 s.rd, .int .i64 s.mo, .slice A n2 cap, .int .i64 s.fi, .int .i64 s.la] 42 ∧ BoxAt W' Y #[.int .i64 s.rd, .int .i64 s.mo, .slice X n2 m, .int .i64 s.fi, .int .i64 s.la] 47 ∧ RgsR 0 W' X n2 s.rs) ⟨hB, ha, hx0, hX.r⟩ ?_
  clear hB ha hx0 hX
  rintro W5 ⟨hB, ha, hx0, hX⟩
  have hl := hl0.below hB
  have l1 := ha.lt
  have l2 := hx0.lt
  go_cut [26] (fun s W' => Below W5.heap.size W5 W' ∧ s = .bool false)
  case first =>
    refine wp_region_R (fun W' => Below W5.heap.size W5 W') (exactStoreOkDR W5.heap.size s A n2 cap X m) exactStoreOkDK exactStoreOkDS (by kernel_rfl) (by kernel_rfl) ?_ ?_ ?_
      (.grow rfl ?_ <| .grow rfl ?_ <| .grow rfl ?_ <| .grow rfl ?_ <| .grow rfl ?_ <| .nil) ?_
    · intro j σ τ w h hR
      match j, h, hR with
      | 0, h, hR => exact (h 0 (by decide)).symm.trans hR
      | 1, h, hR => exact (h 1 (by decide)).symm.trans hR
      | 2, h, hR => obtain ⟨g, d, e, hp⟩ := hR; exact ⟨g, d, (h 2 (by decide)).symm.trans e, hp⟩
      | 3, h, hR => exact (h 3 (by decide)).symm.trans hR
      | 4, h, hR => exact (h 4 (by decide)).symm.trans hR
      | _ + 5, _, _ => exact trivial
    · intro j σ w w' hb hR
      match j, hR with
      | 0, hR => exact hR
      | 1, hR => exact hR
      | 2, hR => obtain ⟨g, d, e, hp⟩ := hR; exact ⟨g, d, e, hp.below hb⟩
      | 3, hR => exact hR
      | 4, hR => exact hR
      | _ + 5, _ => exact trivial
    · exact Below.drew (Below.refl _ _)
    · -- 0: Op.load 47 t5
      intro σ W' hC hw
      clear hw
      have k_hx0 := (hx0.below hC (by omega)).cell
      refine OpGoes.step fun K hK => ?_
      unfold OpGoes
      go_simp
      exact hK _ _ ⟨hC, rfl, Below.refl _ _⟩
    · -- 1: Op.load 42 t1
      intro σ W' hC hw
      clear hw
      have k_ha := (ha.below hC (by omega)).cell
      refine OpGoes.step fun K hK => ?_
      unfold OpGoes
      go_simp
      exact hK _ _ ⟨hC, rfl, Below.refl _ _⟩
    · -- 2: Op.call { value (Operand.func 23), args := #[t23], argTypes := #[42] }
      intro σ W' hC hw
      have e1 : σ 1 = .agg #[.int .i64 s.rd, .int .i64 s.mo, .slice A n2 cap, .int .i64 s.fi, .int .i64 s.la] := hw 1 (by kernel_rfl)
      clear hw
      refine OpGoes.step fun K hK => ?_
      unfold OpGoes
      go_simp
      refine (toStore_any s A n2 cap _ (hl.below hC) hn1 HS.out.each).mono ?_
      rintro e w1 ⟨g, nn, d, rfl, hO, hb1⟩
      exact ⟨_, rfl, hK _ _ ⟨bstep hC hC.size hb1, by obtain rfl : nn = n2 := hO.1.symm.trans HL.out; exact ⟨g, d, rfl, hO.r⟩, hb1⟩⟩
    · -- 3: Op.call { value (Operand.func 25), args := #[t22, t24], argTypes := #[47, 47] }
      intro σ W' hC hw
      have e0 : σ 0 = .agg #[.int .i64 s.rd, .int .i64 s.mo, .slice X n2 m, .int .i64 s.fi, .int .i64 s.la] := hw 0 (by kernel_rfl)
      obtain ⟨g_2, d_2, e2, hp2⟩ : ∃ (g : Option Addr) (d : Nat), σ 2 = .agg #[.int .i64 s.rd, .int .i64 s.mo, .slice g n2 d, .int .i64 s.fi, .int .i64 s.la] ∧ RgsR 0 W' g n2 s.rs := hw 2 (by kernel_rfl)
      clear hw
      refine OpGoes.step fun K hK => ?_
      unfold OpGoes
      go_simp
      refine (eqStore_same s _ _ n2 _ _ _ (hX.below hC) hp2 hn1 HS.out.each).mono ?_
      rintro e w1 ⟨rfl, hb1⟩
      exact ⟨_, rfl, hK _ _ ⟨bstep hC hC.size hb1, rfl, hb1⟩⟩
    · -- 4: Op.unOp UnOp.not 4 t25
      intro σ W' hC hw
      have e3 : σ 3 = .bool true := hw 3 (by kernel_rfl)
      clear hw
      refine OpGoes.step fun K hK => ?_
      unfold OpGoes
      go_simp
      exact hK _ _ ⟨hC, rfl, Below.refl _ _⟩
    · intro σ W' hC hR
      have e4 : σ 4 = .bool false := hR 4 (by decide)
      clear hR
      simp only [lexAll]
      go_simp
      go_step
      go_meet
      exact ⟨hC, rfl⟩
  case rest =>
    obtain ⟨hb6, rfl⟩ := hcut
    go_wp2
    go_ret
    exact .mk rfl (bstep hB hB.size hb6)

set_option maxHeartbeats 400000 in
theorem exactStoreOk_big (s : St) (A : Option Addr) (n cap : Nat) (w : World) (hl0 : RgsR 0 w A n s.rs) (hn : n ≤ maxLen) (hs : szL 1048576 s.rs = -1) :
    Calls Try.prog 4 #[stV s A n cap] w (RetBelow (.bool true) w) := by
  have HS := Lib.hid hs; clear hs
  unfold stV
  go_enter Try.func4, Try.ntmps4
  go_wp2_with fail
  refine calls_abs (fun W => Below w.heap.size w W) ((Below.refl _ _).alloc (Nat.le_refl _) _) ?_
  rintro W hB
  refine (szStore_any s A n cap 1048576 _ (hl0.below hB) hn (by omega) (by omega)).mono ?_
  rintro e w1 ⟨rfl, hb1⟩
  rw [HS.out]
  go_wp2
  go_ret
  exact .mk rfl (bstep hB hB.size hb1)

theorem exactStoreOk_any (s : St) (A : Option Addr) (n cap : Nat) (w : World) (hl : RgsR 0 w A n s.rs) (hn : n ≤ maxLen) :
    Calls Try.prog 4 #[stV s A n cap] w (RetBelow (.bool true) w) := by
  by_cases hs : szL 1048576 s.rs = -1
  · exact exactStoreOk_big s A n cap w hl hn hs
  · exact exactStoreOk_small s A n cap w hl hn hs

end Go.Proofs.Ytnebllfmnandgaa
