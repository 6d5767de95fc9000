/-
  The program's smaller functions of this chapter: whether an event may be the next one, the list without it, what is a story of so many, the makers of the orders.
-/
import Derived.Test.YtdfbbekolcpbmaaOrdA
import Derived.Test.YtdfbbekolcpbmaaOrdB
import Derived.Lib.AppendZeros
import Derived.Deep.RegionWith
namespace Go.Proofs.Ytdfbbekolcpbmaa
set_option linter.unusedSimpArgs false
set_option linter.unusedVariables false
open Go.RowKit
set_option linter.unusedVariables false
attribute [local go_sem ↓] Go.wp_at_zero Go.wp_at_succ

set_option maxHeartbeats 400000 in
theorem iahead_any (x y : Ev) (w : World) : Calls Try.prog 43 #[.agg #[.int .i64 x.who, .bool x.put, .int .i64 x.v, .int .i64 x.re, .int .i64 x.b, .int .i64 x.e], .agg #[.int .i64 y.who, .bool y.put, .int .i64 y.v, .int .i64 y.re, .int .i64 y.b, .int .i64 y.e]] w (RetBelow (.bool (decide (x.e < y.b))) w) := by
  by_cases h : x.e < y.b
  all_goals
    go_enter Try.func43, Try.ntmps43
    go_wp2
    go_ret
    exact .mk (by simp [h]) (((Below.refl _ _).alloc (Nat.le_refl _) _).alloc (by simp) _)

set_option maxHeartbeats 400000 in
theorem mayBe1_any (x y : Ev) (b : Nat) (w : World) (hb : BoxAt w b #[.int .i64 y.who, .bool y.put, .int .i64 y.v, .int .i64 y.re, .int .i64 y.b, .int .i64 y.e] 34) :
    Calls Try.prog 42 #[.agg #[.int .i64 x.who, .bool x.put, .int .i64 x.v, .int .i64 x.re, .int .i64 x.b, .int .i64 x.e], .pointer (some ⟨b, 0, none⟩)] w (RetBelow (.bool (decide (x.e < y.b))) w) := by
  go_enter Try.func42, Try.ntmps42
  go_upto_region 1 with fail
  refine wp_abs (fun W => Below w.heap.size w W ∧ BoxAt W b #[.int .i64 y.who, .bool y.put, .int .i64 y.v, .int .i64 y.re, .int .i64 y.b, .int .i64 y.e] 34 ∧ BoxAt W w.heap.size #[.int .i64 x.who, .bool x.put, .int .i64 x.v, .int .i64 x.re, .int .i64 x.b, .int .i64 x.e] 34) ⟨(Below.refl _ _).alloc (Nat.le_refl _) _, hb.alloc _, BoxAt.new _ _ _⟩ ?_
  clear hb
  rintro W ⟨hB, hb, hx⟩
  have kb := hb.cell
  have kx := hx.cell
  go_wp2_with fail
  refine (iahead_any x y _).mono ?_
  rintro e w1 ⟨rfl, hb1⟩
  go_wp2
  go_ret
  exact .mk rfl (bstep hB hB.size hb1)

set_option maxHeartbeats 1000000 in
theorem indexEv_any (l : List Ev) (y : Ev) (b : Nat) (A : Option Addr) (n cap : Nat) (w : World) (h : EvsR w A n l) (hn : n ≤ 1048576) (hb : BoxAt w b #[.int .i64 y.who, .bool y.put, .int .i64 y.v, .int .i64 y.re, .int .i64 y.b, .int .i64 y.e] 34) :
    Calls Try.prog 48 #[.slice A n cap, .func (.func 42) #[] #[.pointer (some ⟨b, 0, none⟩)]] w (fun e w' => ∃ z : Int, e = .returned (.int .i64 z) ∧ nextB l y = !decide (0 ≤ z) ∧ Below w.heap.size w w') := by
  have HL := Lib.hid h.1
  go_enter Try.func48, Try.ntmps48
  go_wp2
  go_loopw [8] (fun s8 W => ∃ i : Nat, i ≤ n ∧ s8 = .int .i64 i ∧ Below w.heap.size w W ∧ ∀ (j : Nat) o, j < i → l[j]? = some o → y.b ≤ o.e) (fun s8 _ => n - (intOf s8).toNat)
  case atStart => exact ⟨0, Nat.zero_le _, rfl, Below.refl _ _, fun j x h => absurd h (by omega)⟩
  case round =>
    obtain ⟨i, hin, rfl, hB, hal⟩ := hrel
    have HAL := Lib.hid hal; clear hal
    by_cases hlt : i < n
    · obtain ⟨g, o, x, rfl, _, hx, c0, c1, c2, c3, c4, c5⟩ := SlE.at_ (SlE.keep EvE.kept h (fun j _ hj => hB.block j hj)) hlt
      have HX := Lib.hid hx; clear hx
      have g1 : (i : Int) < (n : Int) := by omega
      have g2 : (0 : Int) ≤ (i : Int) := by omega
      go_wp2_with fail
      refine (mayBe1_any x y b _ (hb.below hB hb.lt)).mono ?_
      rintro e w1 ⟨rfl, hb1⟩
      clear c0 c1 c2 c3 c4 c5
      replace hB := bstep hB hB.size hb1
      clear hb1
      by_cases hok : x.e < y.b
      · have hd : decide (x.e < y.b) = true := by simp [hok]
        rw [hd]
        go_wp2
        go_ret
        exact ⟨_, rfl, by rw [nextB_no HX.out hok]; simp, hB⟩
      · have hd : decide (x.e < y.b) = false := by simp [hok]
        rw [hd]
        have HOK := Lib.hid hok; clear hok hd
        go_wp2
        go_roundw
        case rel =>
          refine ⟨i + 1, by omega, by go_num, hB, fun j o hj ho => ?_⟩
          by_cases e : j = i
          · subst e
            have := HX.out
            rw [this] at ho; injection ho with ho; subst ho; have := HOK.out; omega
          · exact (HAL.out j o (by omega) ho)
        case measure => simp [intOf]; omega
    · have g1 : ¬ (i : Int) < (n : Int) := by omega
      obtain rfl : n = i := by omega
      go_wp2
      go_ret
      exact ⟨_, rfl, by rw [nextB_yes (fun j o hj ho => by have := HAL.out j o (by rw [← HL.out]; exact hj) ho; omega)]; decide, hB⟩

set_option maxHeartbeats 400000 in
theorem mayBeNext_any (l : List Ev) (y : Ev) (A : Option Addr) (n cap : Nat) (w : World) (h : EvsR w A n l) (hn : n ≤ 1048576) :
    Calls Try.prog 33 #[.slice A n cap, .agg #[.int .i64 y.who, .bool y.put, .int .i64 y.v, .int .i64 y.re, .int .i64 y.b, .int .i64 y.e]] w (RetBelow (.bool (nextB l y)) w) := by
  go_enter Try.func33, Try.ntmps33
  go_wp2_with fail
  refine calls_abs (fun W => Below w.heap.size w W ∧ BoxAt W w.heap.size #[.int .i64 y.who, .bool y.put, .int .i64 y.v, .int .i64 y.re, .int .i64 y.b, .int .i64 y.e] 34) ⟨(Below.refl _ _).alloc (Nat.le_refl _) _, BoxAt.new _ _ _⟩ ?_
  rintro W ⟨hB, hx⟩
  go_enter Try.func41, Try.ntmps41
  go_wp2_with fail
  refine (indexEv_any l y _ A n cap _ (h.below hB) hn hx).mono ?_
  rintro e w1 ⟨z, rfl, hz, hb1⟩
  have HZ := Lib.hid hz; clear hz
  by_cases h0 : z ≥ 0
  all_goals
    go_wp2
    go_ret
    exact .mk (by rw [HZ.out]; simp <;> omega) (bstep hB hB.size hb1)

/-! ### The list without one of them -/

theorem ev_one {l : List Ev} : ∀ u ∈ l.flatMap Ev.cs, u.oneCell' = true := by
  intro u hu
  obtain ⟨p, _, hp⟩ := List.mem_flatMap.1 hu
  simp [Ev.cs] at hp
  rcases hp with rfl | rfl | rfl | rfl | rfl | rfl <;> rfl

set_option maxRecDepth 100000 in
set_option maxHeartbeats 1000000 in
theorem growEv_any (n : Nat) (w : World) (hn : n ≤ 1048576) :
    Calls Try.prog 49 #[.slice none 0 0, .int .i64 n] w (fun e w' => ∃ v, e = .returned v ∧ w'.ownsRow w.heap.size 34 6 v 0 [] ∧ Below w.heap.size w w') := by
  by_cases h0 : n = 0
  · subst h0
    go_enter Try.func49, Try.ntmps49
    go_wp2
    go_ret
    exact ⟨_, rfl, World.ownsRow_nil _ _ _ _, Below.refl _ _⟩
  · obtain ⟨i0, hi0, hz0, hz1, hz2⟩ := info_parts event_info
    have h1 : (n : Int) > 0 := by omega
    have h2 : ¬ (n : Int) < 0 := by omega
    have hrun := Lib.run_append_nil_zeros (P := Try.prog) w 25 3 25 34 i0 _ .i64 .i64 Try.underlying25 Try.underlying3 hi0 hz0 n (by omega) (by rw [hz1]; omega) (by omega) (by rw [hz2]; omega)
    have HR := Lib.hid hrun
    clear hrun
    go_enter Try.func49, Try.ntmps49
    go_wp2_with (at_builtin; go_must (refine Lib.wpList_append_run _ rfl (.tmp 20) (.tmp 21) _ _ rfl _ _ rfl rfl _ _ HR.out ?_))
    go_ret
    refine ⟨_, rfl, ?_, ?_⟩
    · have hg := grownCap_ge w n 0 34
      refine World.ownsRow_made w.drew _ _ (Nat.le_refl _) (grownCap_le_maxLen _ _ _ _ (by unfold maxLen; omega)) ?_
      rw [Array.size_append, size_zeroCells, size_zeroCells, ← Nat.add_mul, Nat.add_sub_cancel' hg]; rfl
    · exact (Below.refl w.heap.size w).drew.alloc (Nat.le_refl _) _

end Go.Proofs.Ytdfbbekolcpbmaa
