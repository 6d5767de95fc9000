/-
  The walk of the law on hands.
-/
import Derived.Test.YtbdgkmamieagfaaDrwF
import Derived.Test.YtbdgkmamieagfaaHanI
namespace Go.Proofs.Ytbdgkmamieagfaa
set_option linter.unusedSimpArgs false
set_option linter.unusedVariables false
open Go.RowKit
set_option linter.unusedVariables false
attribute [local go_sem] OpUpon
attribute [local go_sem ↓] Go.wp_at_zero Go.wp_at_succ

theorem ihandOk_is (h : Hd) (z : Bool) (w : World) (hz : h.ok = z) : Calls Try.prog 24 #[hdV h] w (RetBelow (.bool z) w) := by rw [← hz]; exact ihandOk_any h w
theorem ihandOk_rest (w : World) : Calls Try.prog 24 #[hdV resting] w (RetBelow (.bool true) w) := ihandOk_is resting true w (by decide)
theorem iisPutting_is (h : Hd) (z : Bool) (w : World) (hz : isPutting h = z) : Calls Try.prog 26 #[hdV h] w (RetBelow (.bool z) w) := by rw [← hz]; exact iisPutting_any h w
theorem toTake_yes {q y : Hd} (h : toTake q = (y, true)) : isPutting y = false ∧ y.at_ = 13 ∧ y.sp = q.sp := by
  unfold toTake at h
  split at h
  · cases h
  · split at h
    · cases h
    · injection h with h
      subst h
      refine ⟨?_, rfl, rfl⟩
      unfold isPutting
      rw [show putB 13 = false by decide, Bool.and_false]
theorem toPut_zero {h x : Hd} {v : Int} (e : toPut h v = (x, false)) (ho : h.ok = false) : x = Hd.zero := by
  unfold toPut at e
  rw [ho] at e
  injection e with e
  exact e.symm
theorem toPut_same {h x : Hd} {v : Int} (e : toPut h v = (x, false)) (ho : h.ok = true) : x = h := by
  unfold toPut at e
  rw [ho] at e
  rw [if_neg (by decide)] at e
  split at e
  · injection e with e
    exact e.symm
  · cases e
theorem toPut_yes {h x : Hd} {v : Int} (e : toPut h v = (x, true)) : x = { Hd.zero with at_ := 1, v := v, sp := h.sp } ∧ ({ Hd.zero with at_ := 1, v := v, sp := h.sp } : Hd).ok = true ∧ isPutting { Hd.zero with at_ := 1, v := v, sp := h.sp } = true := by
  have e0 := e
  rw [← begun_put] at e0
  unfold begunH at e0
  split at e0
  · cases e0
  · split at e0
    · cases e0
    · rename_i h1 h2
      injection e0 with e0
      have hok : ({ Hd.zero with at_ := 1, v := v, sp := h.sp } : Hd).ok = true := by
        simp only [Bool.or_eq_true, not_or, Bool.not_eq_true', Bool.not_eq_false] at h2
        exact h2.2
      exact ⟨e0.symm, hok, by unfold isPutting; rw [hok]; rfl⟩

set_option maxHeartbeats 400000 in
theorem big_any (a0 : Option Addr) (len cap : Nat) (w : World) : Calls Try.prog 5 #[.slice a0 len cap] w (Quiet1 (.bool (decide (4096 < (len : Int)))) w) := by
  go_enter Try.func5, Try.ntmps5
  go_wp2
  go_ret
  exact ⟨rfl, rfl⟩

def fhRR (h x q y p : Hd) (v : Int) (is fine : Bool) (g3 g5 g7 g8 g10 g11 : Nat) (j : Nat) (σ : Nat → Value) (w : World) : Prop :=
  match j with
  | 0 => σ 0 = .agg #[.int .i64 x.at_, .int .i64 x.v, .int .i64 x.r, .int .i64 x.t, .bool x.seen.s, .int .i64 x.seen.n, .bool x.seen.f, .int .i64 x.seen.v, .int .i64 x.tr, .int .i64 x.sp, .bool x.ag, .int .i64 x.re]
  | 1 => σ 1 = .agg #[.int .i64 x.at_, .int .i64 x.v, .int .i64 x.r, .int .i64 x.t, .bool x.seen.s, .int .i64 x.seen.n, .bool x.seen.f, .int .i64 x.seen.v, .int .i64 x.tr, .int .i64 x.sp, .bool x.ag, .int .i64 x.re]
  | 2 => σ 2 = .bool false
  | 3 => σ 3 = .bool false
  | 4 => σ 4 = .bool is
  | 5 => σ 5 = .bool is
  | 6 => σ 6 = .bool false
  | 7 => σ 7 = .bool false
  | 8 => σ 8 = .bool false
  | 9 => σ 9 = .agg #[.int .i64 p.at_, .int .i64 p.v, .int .i64 p.r, .int .i64 p.t, .bool p.seen.s, .int .i64 p.seen.n, .bool p.seen.f, .int .i64 p.seen.v, .int .i64 p.tr, .int .i64 p.sp, .bool p.ag, .int .i64 p.re]
  | 10 => σ 10 = .bool p.ok
  | 11 => σ 11 = .agg #[.int .i64 p.at_, .int .i64 p.v, .int .i64 p.r, .int .i64 p.t, .bool p.seen.s, .int .i64 p.seen.n, .bool p.seen.f, .int .i64 p.seen.v, .int .i64 p.tr, .int .i64 p.sp, .bool p.ag, .int .i64 p.re]
  | 12 => σ 12 = .bool p.ok
  | 13 => σ 13 = .bool false
  | 14 => σ 14 = .bool false
  | 15 => σ 15 = .bool false
  | 16 => σ 16 = .agg #[.int .i64 p.at_, .int .i64 p.v, .int .i64 p.r, .int .i64 p.t, .bool p.seen.s, .int .i64 p.seen.n, .bool p.seen.f, .int .i64 p.seen.v, .int .i64 p.tr, .int .i64 p.sp, .bool p.ag, .int .i64 p.re]
  | 17 => σ 17 = .bool ((isPutting p))
  | 18 => σ 18 = .agg #[.int .i64 p.at_, .int .i64 p.v, .int .i64 p.r, .int .i64 p.t, .bool p.seen.s, .int .i64 p.seen.n, .bool p.seen.f, .int .i64 p.seen.v, .int .i64 p.tr, .int .i64 p.sp, .bool p.ag, .int .i64 p.re]
  | 19 => σ 19 = .bool ((isPutting p))
  | 20 => σ 20 = .bool false
  | 21 => σ 21 = .bool false
  | 22 => σ 22 = .bool false
  | 23 => σ 23 = .agg #[.int .i64 resting.at_, .int .i64 resting.v, .int .i64 resting.r, .int .i64 resting.t, .bool resting.seen.s, .int .i64 resting.seen.n, .bool resting.seen.f, .int .i64 resting.seen.v, .int .i64 resting.tr, .int .i64 resting.sp, .bool resting.ag, .int .i64 resting.re]
  | 24 => σ 24 = .agg #[.int .i64 resting.at_, .int .i64 resting.v, .int .i64 resting.r, .int .i64 resting.t, .bool resting.seen.s, .int .i64 resting.seen.n, .bool resting.seen.f, .int .i64 resting.seen.v, .int .i64 resting.tr, .int .i64 resting.sp, .bool resting.ag, .int .i64 resting.re]
  | 25 => σ 25 = .bool false
  | 26 => σ 26 = .bool false
  | 27 => σ 27 = .bool false
  | 28 => σ 28 = .agg #[.int .i64 resting.at_, .int .i64 resting.v, .int .i64 resting.r, .int .i64 resting.t, .bool resting.seen.s, .int .i64 resting.seen.n, .bool resting.seen.f, .int .i64 resting.seen.v, .int .i64 resting.tr, .int .i64 resting.sp, .bool resting.ag, .int .i64 resting.re]
  | 29 => σ 29 = .bool true
  | 30 => σ 30 = .bool false
  | 31 => σ 31 = .bool false
  | _ => True

def fhRS (j : Nat) : List Nat := [[0], [1], [2], [3], [4], [5], [6], [7], [8], [9], [10], [11], [12], [13], [14], [15], [16], [17], [18], [19], [20], [21], [22], [23], [24], [25], [26], [27], [28], [29], [30], [31]].getD j [j]
def fhRK (j : Nat) : Nat := [0, 0, 0, 0, 0, 0, 0, 0, 0, 0, 0, 0, 0, 0, 0, 0, 0, 0, 0, 0, 0, 0, 0, 0, 0, 0, 0, 0, 0, 0, 0, 0].getD j 0

set_option maxRecDepth 100000 in
set_option maxHeartbeats 8000000 in
theorem fnHands_any (a0 : Option Addr) (len cap : Nat) (w : World) (hc : CodeOk w.heap.size w a0 len) :
    Calls Try.prog 4 #[.slice a0 len cap] w (RetBelow (.bool true) w) := by
  by_cases hl : 4096 < (len : Int)
  · have hl' : decide (4096 < (len : Int)) = true := decide_eq_true hl
    go_enter Try.func4, Try.ntmps4
    go_wp2_with fail
    refine (big_any _ _ _ _).mono ?_
    rintro e w' ⟨rfl, rfl⟩
    go_wp2
    go_ret
    exact .mk rfl (Below.refl _ _)
  · have hl' : decide (4096 < (len : Int)) = false := decide_eq_false hl
    go_enter Try.func4, Try.ntmps4
    go_wp2_with fail
    refine (big_any _ _ _ _).mono ?_
    rintro e w' ⟨rfl, rfl⟩
    go_wp2_with fail
    refine (drawToPut_any a0 len cap _ hc).mono ?_
    rintro e w1 ⟨h, v, rfl, hB⟩
    have HPI := itoPut_any h v
    have HPS := stoPut_any h v
    generalize hP : toPut h v = P at *
    obtain ⟨x, is⟩ := P
    have HP := Lib.hid hP; clear hP
    unfold hdV
    go_wp2_with fail
    refine calls_abs (fun W => Below w.heap.size w W ∧ BoxAt W w1.heap.size #[.int .i64 h.at_, .int .i64 h.v, .int .i64 h.r, .int .i64 h.t, .bool h.seen.s, .int .i64 h.seen.n, .bool h.seen.f, .int .i64 h.seen.v, .int .i64 h.tr, .int .i64 h.sp, .bool h.ag, .int .i64 h.re] 41) ⟨hB.alloc hB.size _, BoxAt.new _ _ _⟩ ?_
    clear hB 
    generalize w1.heap.size = g3 at *
    rintro W1 ⟨hB, b3⟩
    refine (HPI _).mono ?_
    rintro e w2 ⟨rfl, hb⟩
    replace b3 := b3.below hb b3.lt
    replace hB := bstep hB hB.size hb
    clear hb
    have lb3 := b3.lt
    unfold hdV
    have kb3 := b3.cell
    go_wp2_with fail
    clear kb3
    refine calls_abs (fun W => Below w.heap.size w W ∧ BoxAt W g3 #[.int .i64 h.at_, .int .i64 h.v, .int .i64 h.r, .int .i64 h.t, .bool h.seen.s, .int .i64 h.seen.n, .bool h.seen.f, .int .i64 h.seen.v, .int .i64 h.tr, .int .i64 h.sp, .bool h.ag, .int .i64 h.re] 41 ∧ BoxAt W w2.heap.size #[.int .i64 x.at_, .int .i64 x.v, .int .i64 x.r, .int .i64 x.t, .bool x.seen.s, .int .i64 x.seen.n, .bool x.seen.f, .int .i64 x.seen.v, .int .i64 x.tr, .int .i64 x.sp, .bool x.ag, .int .i64 x.re] 41) ⟨hB.alloc hB.size _, b3.alloc _, BoxAt.new _ _ _⟩ ?_
    clear hB b3
    generalize w2.heap.size = g5 at *
    rintro W2 ⟨hB, b3, b5⟩
    refine (drawToTake_any a0 len cap _ ((hc.below hB).le hB.size)).mono ?_
    rintro e w3 ⟨q, rfl, hb⟩
    replace b3 := b3.below hb b3.lt
    replace b5 := b5.below hb b5.lt
    replace hB := bstep hB hB.size hb
    clear hb
    have HTI := itoTake_any q
    have HTS := stoTake_any q
    generalize hT : toTake q = T at *
    obtain ⟨y, fine⟩ := T
    have HT := Lib.hid hT; clear hT
    unfold hdV
    have lb3 := b3.lt
    have lb5 := b5.lt
    have kb3 := b3.cell
    have kb5 := b5.cell
    go_wp2_with fail
    clear kb3 kb5
    refine calls_abs (fun W => Below w.heap.size w W ∧ BoxAt W g3 #[.int .i64 h.at_, .int .i64 h.v, .int .i64 h.r, .int .i64 h.t, .bool h.seen.s, .int .i64 h.seen.n, .bool h.seen.f, .int .i64 h.seen.v, .int .i64 h.tr, .int .i64 h.sp, .bool h.ag, .int .i64 h.re] 41 ∧ BoxAt W g5 #[.int .i64 x.at_, .int .i64 x.v, .int .i64 x.r, .int .i64 x.t, .bool x.seen.s, .int .i64 x.seen.n, .bool x.seen.f, .int .i64 x.seen.v, .int .i64 x.tr, .int .i64 x.sp, .bool x.ag, .int .i64 x.re] 41 ∧ BoxAt W w3.heap.size #[.int .i64 q.at_, .int .i64 q.v, .int .i64 q.r, .int .i64 q.t, .bool q.seen.s, .int .i64 q.seen.n, .bool q.seen.f, .int .i64 q.seen.v, .int .i64 q.tr, .int .i64 q.sp, .bool q.ag, .int .i64 q.re] 41) ⟨hB.alloc hB.size _, b3.alloc _, b5.alloc _, BoxAt.new _ _ _⟩ ?_
    clear hB b3 b5
    generalize w3.heap.size = g7 at *
    rintro W3 ⟨hB, b3, b5, b7⟩
    refine (HTI _).mono ?_
    rintro e w4 ⟨rfl, hb⟩
    replace b3 := b3.below hb b3.lt
    replace b5 := b5.below hb b5.lt
    replace b7 := b7.below hb b7.lt
    replace hB := bstep hB hB.size hb
    clear hb
    unfold hdV
    have lb3 := b3.lt
    have lb5 := b5.lt
    have lb7 := b7.lt
    have kb3 := b3.cell
    have kb5 := b5.cell
    have kb7 := b7.cell
    go_wp2_with fail
    clear kb3 kb5 kb7
    refine calls_abs (fun W => Below w.heap.size w W ∧ BoxAt W g3 #[.int .i64 h.at_, .int .i64 h.v, .int .i64 h.r, .int .i64 h.t, .bool h.seen.s, .int .i64 h.seen.n, .bool h.seen.f, .int .i64 h.seen.v, .int .i64 h.tr, .int .i64 h.sp, .bool h.ag, .int .i64 h.re] 41 ∧ BoxAt W g5 #[.int .i64 x.at_, .int .i64 x.v, .int .i64 x.r, .int .i64 x.t, .bool x.seen.s, .int .i64 x.seen.n, .bool x.seen.f, .int .i64 x.seen.v, .int .i64 x.tr, .int .i64 x.sp, .bool x.ag, .int .i64 x.re] 41 ∧ BoxAt W g7 #[.int .i64 q.at_, .int .i64 q.v, .int .i64 q.r, .int .i64 q.t, .bool q.seen.s, .int .i64 q.seen.n, .bool q.seen.f, .int .i64 q.seen.v, .int .i64 q.tr, .int .i64 q.sp, .bool q.ag, .int .i64 q.re] 41 ∧ BoxAt W w4.heap.size #[.int .i64 y.at_, .int .i64 y.v, .int .i64 y.r, .int .i64 y.t, .bool y.seen.s, .int .i64 y.seen.n, .bool y.seen.f, .int .i64 y.seen.v, .int .i64 y.tr, .int .i64 y.sp, .bool y.ag, .int .i64 y.re] 41) ⟨hB.alloc hB.size _, b3.alloc _, b5.alloc _, b7.alloc _, BoxAt.new _ _ _⟩ ?_
    clear hB b3 b5 b7
    generalize w4.heap.size = g8 at *
    rintro W4 ⟨hB, b3, b5, b7, b8⟩
    refine (drawIsPutting_any a0 len cap _ ((hc.below hB).le hB.size)).mono ?_
    rintro e w5 ⟨p, rfl, hb⟩
    replace b3 := b3.below hb b3.lt
    replace b5 := b5.below hb b5.lt
    replace b7 := b7.below hb b7.lt
    replace b8 := b8.below hb b8.lt
    replace hB := bstep hB hB.size hb
    clear hb
    unfold hdV
    have lb3 := b3.lt
    have lb5 := b5.lt
    have lb7 := b7.lt
    have lb8 := b8.lt
    have kb3 := b3.cell
    have kb5 := b5.cell
    have kb7 := b7.cell
    have kb8 := b8.cell
    go_wp2_with fail
    clear kb3 kb5 kb7 kb8
    refine calls_abs (fun W => Below w.heap.size w W ∧ BoxAt W g3 #[.int .i64 h.at_, .int .i64 h.v, .int .i64 h.r, .int .i64 h.t, .bool h.seen.s, .int .i64 h.seen.n, .bool h.seen.f, .int .i64 h.seen.v, .int .i64 h.tr, .int .i64 h.sp, .bool h.ag, .int .i64 h.re] 41 ∧ BoxAt W g5 #[.int .i64 x.at_, .int .i64 x.v, .int .i64 x.r, .int .i64 x.t, .bool x.seen.s, .int .i64 x.seen.n, .bool x.seen.f, .int .i64 x.seen.v, .int .i64 x.tr, .int .i64 x.sp, .bool x.ag, .int .i64 x.re] 41 ∧ BoxAt W g7 #[.int .i64 q.at_, .int .i64 q.v, .int .i64 q.r, .int .i64 q.t, .bool q.seen.s, .int .i64 q.seen.n, .bool q.seen.f, .int .i64 q.seen.v, .int .i64 q.tr, .int .i64 q.sp, .bool q.ag, .int .i64 q.re] 41 ∧ BoxAt W g8 #[.int .i64 y.at_, .int .i64 y.v, .int .i64 y.r, .int .i64 y.t, .bool y.seen.s, .int .i64 y.seen.n, .bool y.seen.f, .int .i64 y.seen.v, .int .i64 y.tr, .int .i64 y.sp, .bool y.ag, .int .i64 y.re] 41 ∧ BoxAt W w5.heap.size #[.int .i64 p.at_, .int .i64 p.v, .int .i64 p.r, .int .i64 p.t, .bool p.seen.s, .int .i64 p.seen.n, .bool p.seen.f, .int .i64 p.seen.v, .int .i64 p.tr, .int .i64 p.sp, .bool p.ag, .int .i64 p.re] 41) ⟨hB.alloc hB.size _, b3.alloc _, b5.alloc _, b7.alloc _, b8.alloc _, BoxAt.new _ _ _⟩ ?_
    clear hB b3 b5 b7 b8
    generalize w5.heap.size = g10 at *
    rintro W5 ⟨hB, b3, b5, b7, b8, b10⟩
    refine (HPS _).mono ?_
    rintro e w6 ⟨rfl, hb⟩
    replace b3 := b3.below hb b3.lt
    replace b5 := b5.below hb b5.lt
    replace b7 := b7.below hb b7.lt
    replace b8 := b8.below hb b8.lt
    replace b10 := b10.below hb b10.lt
    replace hB := bstep hB hB.size hb
    clear hb
    unfold hdV
    have lb3 := b3.lt
    have lb5 := b5.lt
    have lb7 := b7.lt
    have lb8 := b8.lt
    have lb10 := b10.lt
    go_upto_region 9 with fail
    refine wp_abs (fun W => Below w.heap.size w W ∧ BoxAt W g3 #[.int .i64 h.at_, .int .i64 h.v, .int .i64 h.r, .int .i64 h.t, .bool h.seen.s, .int .i64 h.seen.n, .bool h.seen.f, .int .i64 h.seen.v, .int .i64 h.tr, .int .i64 h.sp, .bool h.ag, .int .i64 h.re] 41 ∧ BoxAt W g5 #[.int .i64 x.at_, .int .i64 x.v, .int .i64 x.r, .int .i64 x.t, .bool x.seen.s, .int .i64 x.seen.n, .bool x.seen.f, .int .i64 x.seen.v, .int .i64 x.tr, .int .i64 x.sp, .bool x.ag, .int .i64 x.re] 41 ∧ BoxAt W g7 #[.int .i64 q.at_, .int .i64 q.v, .int .i64 q.r, .int .i64 q.t, .bool q.seen.s, .int .i64 q.seen.n, .bool q.seen.f, .int .i64 q.seen.v, .int .i64 q.tr, .int .i64 q.sp, .bool q.ag, .int .i64 q.re] 41 ∧ BoxAt W g8 #[.int .i64 y.at_, .int .i64 y.v, .int .i64 y.r, .int .i64 y.t, .bool y.seen.s, .int .i64 y.seen.n, .bool y.seen.f, .int .i64 y.seen.v, .int .i64 y.tr, .int .i64 y.sp, .bool y.ag, .int .i64 y.re] 41 ∧ BoxAt W g10 #[.int .i64 p.at_, .int .i64 p.v, .int .i64 p.r, .int .i64 p.t, .bool p.seen.s, .int .i64 p.seen.n, .bool p.seen.f, .int .i64 p.seen.v, .int .i64 p.tr, .int .i64 p.sp, .bool p.ag, .int .i64 p.re] 41 ∧ BoxAt W w6.heap.size #[.int .i64 x.at_, .int .i64 x.v, .int .i64 x.r, .int .i64 x.t, .bool x.seen.s, .int .i64 x.seen.n, .bool x.seen.f, .int .i64 x.seen.v, .int .i64 x.tr, .int .i64 x.sp, .bool x.ag, .int .i64 x.re] 41) ⟨hB.alloc hB.size _, b3.alloc _, b5.alloc _, b7.alloc _, b8.alloc _, b10.alloc _, BoxAt.new _ _ _⟩ ?_
    clear hB b3 b5 b7 b8 b10
    generalize w6.heap.size = g11 at *
    rintro W6 ⟨hB, b3, b5, b7, b8, b10, b11⟩
    go_cut [74] (fun u74 W' => Below w.heap.size w W' ∧ BoxAt W' g3 #[.int .i64 h.at_, .int .i64 h.v, .int .i64 h.r, .int .i64 h.t, .bool h.seen.s, .int .i64 h.seen.n, .bool h.seen.f, .int .i64 h.seen.v, .int .i64 h.tr, .int .i64 h.sp, .bool h.ag, .int .i64 h.re] 41 ∧ BoxAt W' g5 #[.int .i64 x.at_, .int .i64 x.v, .int .i64 x.r, .int .i64 x.t, .bool x.seen.s, .int .i64 x.seen.n, .bool x.seen.f, .int .i64 x.seen.v, .int .i64 x.tr, .int .i64 x.sp, .bool x.ag, .int .i64 x.re] 41 ∧ BoxAt W' g7 #[.int .i64 q.at_, .int .i64 q.v, .int .i64 q.r, .int .i64 q.t, .bool q.seen.s, .int .i64 q.seen.n, .bool q.seen.f, .int .i64 q.seen.v, .int .i64 q.tr, .int .i64 q.sp, .bool q.ag, .int .i64 q.re] 41 ∧ BoxAt W' g8 #[.int .i64 y.at_, .int .i64 y.v, .int .i64 y.r, .int .i64 y.t, .bool y.seen.s, .int .i64 y.seen.n, .bool y.seen.f, .int .i64 y.seen.v, .int .i64 y.tr, .int .i64 y.sp, .bool y.ag, .int .i64 y.re] 41 ∧ BoxAt W' g10 #[.int .i64 p.at_, .int .i64 p.v, .int .i64 p.r, .int .i64 p.t, .bool p.seen.s, .int .i64 p.seen.n, .bool p.seen.f, .int .i64 p.seen.v, .int .i64 p.tr, .int .i64 p.sp, .bool p.ag, .int .i64 p.re] 41 ∧ BoxAt W' g11 #[.int .i64 x.at_, .int .i64 x.v, .int .i64 x.r, .int .i64 x.t, .bool x.seen.s, .int .i64 x.seen.n, .bool x.seen.f, .int .i64 x.seen.v, .int .i64 x.tr, .int .i64 x.sp, .bool x.ag, .int .i64 x.re] 41 ∧ u74 = .bool false)
    case first =>
      refine wp_region2 (fun w w' => Below w.heap.size w w') (fun _ _ h => h.size) (fun L W' => Below w.heap.size w W' ∧ BoxAt W' g3 #[.int .i64 h.at_, .int .i64 h.v, .int .i64 h.r, .int .i64 h.t, .bool h.seen.s, .int .i64 h.seen.n, .bool h.seen.f, .int .i64 h.seen.v, .int .i64 h.tr, .int .i64 h.sp, .bool h.ag, .int .i64 h.re] 41 ∧ BoxAt W' g5 #[.int .i64 x.at_, .int .i64 x.v, .int .i64 x.r, .int .i64 x.t, .bool x.seen.s, .int .i64 x.seen.n, .bool x.seen.f, .int .i64 x.seen.v, .int .i64 x.tr, .int .i64 x.sp, .bool x.ag, .int .i64 x.re] 41 ∧ BoxAt W' g7 #[.int .i64 q.at_, .int .i64 q.v, .int .i64 q.r, .int .i64 q.t, .bool q.seen.s, .int .i64 q.seen.n, .bool q.seen.f, .int .i64 q.seen.v, .int .i64 q.tr, .int .i64 q.sp, .bool q.ag, .int .i64 q.re] 41 ∧ BoxAt W' g8 #[.int .i64 y.at_, .int .i64 y.v, .int .i64 y.r, .int .i64 y.t, .bool y.seen.s, .int .i64 y.seen.n, .bool y.seen.f, .int .i64 y.seen.v, .int .i64 y.tr, .int .i64 y.sp, .bool y.ag, .int .i64 y.re] 41 ∧ BoxAt W' g10 #[.int .i64 p.at_, .int .i64 p.v, .int .i64 p.r, .int .i64 p.t, .bool p.seen.s, .int .i64 p.seen.n, .bool p.seen.f, .int .i64 p.seen.v, .int .i64 p.tr, .int .i64 p.sp, .bool p.ag, .int .i64 p.re] 41 ∧ BoxAt W' g11 #[.int .i64 x.at_, .int .i64 x.v, .int .i64 x.r, .int .i64 x.t, .bool x.seen.s, .int .i64 x.seen.n, .bool x.seen.f, .int .i64 x.seen.v, .int .i64 x.tr, .int .i64 x.sp, .bool x.ag, .int .i64 x.re] 41) (fhRR h x q y p v is fine g3 g5 g7 g8 g10 g11) fhRK fhRS (by kernel_rfl) (by kernel_rfl) ?_ ?_ ?_
        (.grow rfl ?_ <| .grow rfl ?_ <| .grow rfl ?_ <| .grow rfl ?_ <| .grow rfl ?_ <| .grow rfl ?_ <| .grow rfl ?_ <| .grow rfl ?_ <| .grow rfl ?_ <| .grow rfl ?_ <| .grow rfl ?_ <| .grow rfl ?_ <| .grow rfl ?_ <| .grow rfl ?_ <| .grow rfl ?_ <| .grow rfl ?_ <| .grow rfl ?_ <| .grow rfl ?_ <| .grow rfl ?_ <| .grow rfl ?_ <| .grow rfl ?_ <| .grow rfl ?_ <| .grow rfl ?_ <| .grow rfl ?_ <| .grow rfl ?_ <| .grow rfl ?_ <| .grow rfl ?_ <| .grow rfl ?_ <| .grow rfl ?_ <| .grow rfl ?_ <| .grow rfl ?_ <| .grow rfl ?_ <| .nil) ?_
      · intro j σ τ w h hR
        match j, h, hR with
        | 0, h, hR => exact (h 0 (List.mem_singleton.2 rfl)).symm.trans hR
        | 1, h, hR => exact (h 1 (List.mem_singleton.2 rfl)).symm.trans hR
        | 2, h, hR => exact (h 2 (List.mem_singleton.2 rfl)).symm.trans hR
        | 3, h, hR => exact (h 3 (List.mem_singleton.2 rfl)).symm.trans hR
        | 4, h, hR => exact (h 4 (List.mem_singleton.2 rfl)).symm.trans hR
        | 5, h, hR => exact (h 5 (List.mem_singleton.2 rfl)).symm.trans hR
        | 6, h, hR => exact (h 6 (List.mem_singleton.2 rfl)).symm.trans hR
        | 7, h, hR => exact (h 7 (List.mem_singleton.2 rfl)).symm.trans hR
        | 8, h, hR => exact (h 8 (List.mem_singleton.2 rfl)).symm.trans hR
        | 9, h, hR => exact (h 9 (List.mem_singleton.2 rfl)).symm.trans hR
        | 10, h, hR => exact (h 10 (List.mem_singleton.2 rfl)).symm.trans hR
        | 11, h, hR => exact (h 11 (List.mem_singleton.2 rfl)).symm.trans hR
        | 12, h, hR => exact (h 12 (List.mem_singleton.2 rfl)).symm.trans hR
        | 13, h, hR => exact (h 13 (List.mem_singleton.2 rfl)).symm.trans hR
        | 14, h, hR => exact (h 14 (List.mem_singleton.2 rfl)).symm.trans hR
        | 15, h, hR => exact (h 15 (List.mem_singleton.2 rfl)).symm.trans hR
        | 16, h, hR => exact (h 16 (List.mem_singleton.2 rfl)).symm.trans hR
        | 17, h, hR => exact (h 17 (List.mem_singleton.2 rfl)).symm.trans hR
        | 18, h, hR => exact (h 18 (List.mem_singleton.2 rfl)).symm.trans hR
        | 19, h, hR => exact (h 19 (List.mem_singleton.2 rfl)).symm.trans hR
        | 20, h, hR => exact (h 20 (List.mem_singleton.2 rfl)).symm.trans hR
        | 21, h, hR => exact (h 21 (List.mem_singleton.2 rfl)).symm.trans hR
        | 22, h, hR => exact (h 22 (List.mem_singleton.2 rfl)).symm.trans hR
        | 23, h, hR => exact (h 23 (List.mem_singleton.2 rfl)).symm.trans hR
        | 24, h, hR => exact (h 24 (List.mem_singleton.2 rfl)).symm.trans hR
        | 25, h, hR => exact (h 25 (List.mem_singleton.2 rfl)).symm.trans hR
        | 26, h, hR => exact (h 26 (List.mem_singleton.2 rfl)).symm.trans hR
        | 27, h, hR => exact (h 27 (List.mem_singleton.2 rfl)).symm.trans hR
        | 28, h, hR => exact (h 28 (List.mem_singleton.2 rfl)).symm.trans hR
        | 29, h, hR => exact (h 29 (List.mem_singleton.2 rfl)).symm.trans hR
        | 30, h, hR => exact (h 30 (List.mem_singleton.2 rfl)).symm.trans hR
        | 31, h, hR => exact (h 31 (List.mem_singleton.2 rfl)).symm.trans hR
        | _ + 32, _, _ => exact trivial
      · intro j σ w w' hb hR
        match j, hR with
        | 0, hR => exact hR
        | 1, hR => exact hR
        | 2, hR => exact hR
        | 3, hR => exact hR
        | 4, hR => exact hR
        | 5, hR => exact hR
        | 6, hR => exact hR
        | 7, hR => exact hR
        | 8, hR => exact hR
        | 9, hR => exact hR
        | 10, hR => exact hR
        | 11, hR => exact hR
        | 12, hR => exact hR
        | 13, hR => exact hR
        | 14, hR => exact hR
        | 15, hR => exact hR
        | 16, hR => exact hR
        | 17, hR => exact hR
        | 18, hR => exact hR
        | 19, hR => exact hR
        | 20, hR => exact hR
        | 21, hR => exact hR
        | 22, hR => exact hR
        | 23, hR => exact hR
        | 24, hR => exact hR
        | 25, hR => exact hR
        | 26, hR => exact hR
        | 27, hR => exact hR
        | 28, hR => exact hR
        | 29, hR => exact hR
        | 30, hR => exact hR
        | 31, hR => exact hR
        | _ + 32, _ => exact trivial
      · exact ⟨hB.drew, b3, b5, b7, b8, b10, b11⟩
      · -- 0: Op.load 41 t11
        go_light
        intro L σ W' hcl hL hC hw
        clear hw
        have HC := Lib.hid hC
        obtain ⟨hB, b3, b5, b7, b8, b10, b11⟩ := hC
        have kb11 := b11.cell
        clear hcl hL
        clear hB b3 b5 b7 b8 b10 b11
        refine OpGoes.step fun K hK => ?_
        unfold OpGoes
        go_simp
        obtain ⟨hB, b3, b5, b7, b8, b10, b11⟩ := HC.out
        exact hK _ _ ⟨⟨hB, b3, b5, b7, b8, b10, b11⟩, rfl, Below.refl _ _⟩
      · -- 1: Op.load 41 t5
        go_light
        intro L σ W' hcl hL hC hw
        clear hw
        have HC := Lib.hid hC
        obtain ⟨hB, b3, b5, b7, b8, b10, b11⟩ := hC
        have kb5 := b5.cell
        clear hcl hL
        clear hB b3 b5 b7 b8 b10 b11
        refine OpGoes.step fun K hK => ?_
        unfold OpGoes
        go_simp
        obtain ⟨hB, b3, b5, b7, b8, b10, b11⟩ := HC.out
        exact hK _ _ ⟨⟨hB, b3, b5, b7, b8, b10, b11⟩, rfl, Below.refl _ _⟩
      · -- 2: Op.binOp BinOp.neq 41 t43 t44 41
        go_light
        intro L σ W' hcl hL hC hw
        have e0 : σ 0 = .agg #[.int .i64 x.at_, .int .i64 x.v, .int .i64 x.r, .int .i64 x.t, .bool x.seen.s, .int .i64 x.seen.n, .bool x.seen.f, .int .i64 x.seen.v, .int .i64 x.tr, .int .i64 x.sp, .bool x.ag, .int .i64 x.re] := hw 0 (by kernel_rfl)
        have e1 : σ 1 = .agg #[.int .i64 x.at_, .int .i64 x.v, .int .i64 x.r, .int .i64 x.t, .bool x.seen.s, .int .i64 x.seen.n, .bool x.seen.f, .int .i64 x.seen.v, .int .i64 x.tr, .int .i64 x.sp, .bool x.ag, .int .i64 x.re] := hw 1 (by kernel_rfl)
        clear hw
        have HC := Lib.hid hC
        clear hC
        clear hcl hL
        refine OpGoes.step fun K hK => ?_
        unfold OpGoes
        go_simp
        obtain ⟨hB, b3, b5, b7, b8, b10, b11⟩ := HC.out
        exact hK _ _ ⟨⟨hB, b3, b5, b7, b8, b10, b11⟩, rfl, Below.refl _ _⟩
      · -- 3: Op.move t45
        go_light
        intro L σ W' hcl hL hC hw
        have e2 : σ 2 = .bool false := hw 2 (by kernel_rfl)
        clear hw
        have HC := Lib.hid hC
        clear hC
        clear hcl hL
        refine OpGoes.step fun K hK => ?_
        unfold OpGoes
        go_simp
        obtain ⟨hB, b3, b5, b7, b8, b10, b11⟩ := HC.out
        exact hK _ _ ⟨⟨hB, b3, b5, b7, b8, b10, b11⟩, rfl, Below.refl _ _⟩
      · -- 4: Op.move t12   [guarded: some (3, false)]
        go_light
        intro L σ W' hcl hL hC hw
        have e3 : σ 3 = .bool false := hw 3 (by kernel_rfl)
        clear hw
        have HC := Lib.hid hC
        clear hC
        clear hcl hL
        refine OpGoes.step fun K hK => ?_
        unfold OpGoes
        go_simp
        obtain ⟨hB, b3, b5, b7, b8, b10, b11⟩ := HC.out
        exact hK _ _ ⟨⟨hB, b3, b5, b7, b8, b10, b11⟩, rfl, Below.refl _ _⟩
      · -- 5: Op.move t6   [guarded: some (3, false)]
        go_light
        intro L σ W' hcl hL hC hw
        have e3 : σ 3 = .bool false := hw 3 (by kernel_rfl)
        clear hw
        have HC := Lib.hid hC
        clear hC
        clear hcl hL
        refine OpGoes.step fun K hK => ?_
        unfold OpGoes
        go_simp
        obtain ⟨hB, b3, b5, b7, b8, b10, b11⟩ := HC.out
        exact hK _ _ ⟨⟨hB, b3, b5, b7, b8, b10, b11⟩, rfl, Below.refl _ _⟩
      · -- 6: Op.binOp BinOp.neq 4 t47 t48 4   [guarded: some (3, false)]
        go_light
        intro L σ W' hcl hL hC hw
        have e3 : σ 3 = .bool false := hw 3 (by kernel_rfl)
        have e4 : σ 4 = .bool is := hw 4 (by kernel_rfl)
        have e5 : σ 5 = .bool is := hw 5 (by kernel_rfl)
        clear hw
        have HC := Lib.hid hC
        clear hC
        clear hcl hL
        refine OpGoes.step fun K hK => ?_
        unfold OpGoes
        go_simp
        obtain ⟨hB, b3, b5, b7, b8, b10, b11⟩ := HC.out
        exact hK _ _ ⟨⟨hB, b3, b5, b7, b8, b10, b11⟩, rfl, Below.refl _ _⟩
      · -- 7: Op.pick t46 (const (Value.bool true)) t49
        go_light
        intro L σ W' hcl hL hC hw
        have e3 : σ 3 = .bool false := hw 3 (by kernel_rfl)
        have e6 : σ 6 = .bool false := hw 6 (by kernel_rfl)
        clear hw
        have HC := Lib.hid hC
        clear hC
        clear hcl hL
        refine OpGoes.step fun K hK => ?_
        unfold OpGoes
        go_simp
        obtain ⟨hB, b3, b5, b7, b8, b10, b11⟩ := HC.out
        exact hK _ _ ⟨⟨hB, b3, b5, b7, b8, b10, b11⟩, rfl, Below.refl _ _⟩
      · -- 8: Op.move t50
        go_light
        intro L σ W' hcl hL hC hw
        have e7 : σ 7 = .bool false := hw 7 (by kernel_rfl)
        clear hw
        have HC := Lib.hid hC
        clear hC
        clear hcl hL
        refine OpGoes.step fun K hK => ?_
        unfold OpGoes
        go_simp
        obtain ⟨hB, b3, b5, b7, b8, b10, b11⟩ := HC.out
        exact hK _ _ ⟨⟨hB, b3, b5, b7, b8, b10, b11⟩, rfl, Below.refl _ _⟩
      · -- 9: Op.load 41 t10   [guarded: some (8, false)]
        go_light
        intro L σ W' hcl hL hC hw
        have e8 : σ 8 = .bool false := hw 8 (by kernel_rfl)
        clear hw
        have HC := Lib.hid hC
        obtain ⟨hB, b3, b5, b7, b8, b10, b11⟩ := hC
        have kb10 := b10.cell
        clear hcl hL
        clear hB b3 b5 b7 b8 b10 b11
        refine OpGoes.step fun K hK => ?_
        unfold OpGoes
        go_simp
        obtain ⟨hB, b3, b5, b7, b8, b10, b11⟩ := HC.out
        exact hK _ _ ⟨⟨hB, b3, b5, b7, b8, b10, b11⟩, rfl, Below.refl _ _⟩
      · -- 10: Op.call { value (Operand.func 24), args := #[t52], argTypes := #[41] }   [guarded: some (8, false)]
        go_light
        intro L σ W' hcl hL hC hw
        have e8 : σ 8 = .bool false := hw 8 (by kernel_rfl)
        have e9 : σ 9 = .agg #[.int .i64 p.at_, .int .i64 p.v, .int .i64 p.r, .int .i64 p.t, .bool p.seen.s, .int .i64 p.seen.n, .bool p.seen.f, .int .i64 p.seen.v, .int .i64 p.tr, .int .i64 p.sp, .bool p.ag, .int .i64 p.re] := hw 9 (by kernel_rfl)
        clear hw
        have HC := Lib.hid hC
        clear hC
        clear hcl hL
        refine OpGoes.step fun K hK => ?_
        unfold OpGoes
        go_simp
        obtain ⟨hB, b3, b5, b7, b8, b10, b11⟩ := HC.out
        refine (ihandOk_any p _).mono ?_
        rintro e w1 ⟨rfl, hb1⟩
        exact ⟨_, rfl, hK _ _ ⟨⟨bstep hB hB.size hb1, b3.below hb1 b3.lt, b5.below hb1 b5.lt, b7.below hb1 b7.lt, b8.below hb1 b8.lt, b10.below hb1 b10.lt, b11.below hb1 b11.lt⟩, rfl, hb1⟩⟩
      · -- 11: Op.load 41 t10   [guarded: some (8, false)]
        go_light
        intro L σ W' hcl hL hC hw
        have e8 : σ 8 = .bool false := hw 8 (by kernel_rfl)
        clear hw
        have HC := Lib.hid hC
        obtain ⟨hB, b3, b5, b7, b8, b10, b11⟩ := hC
        have kb10 := b10.cell
        clear hcl hL
        clear hB b3 b5 b7 b8 b10 b11
        refine OpGoes.step fun K hK => ?_
        unfold OpGoes
        go_simp
        obtain ⟨hB, b3, b5, b7, b8, b10, b11⟩ := HC.out
        exact hK _ _ ⟨⟨hB, b3, b5, b7, b8, b10, b11⟩, rfl, Below.refl _ _⟩
      · -- 12: Op.call { value (Operand.func 25), args := #[t54], argTypes := #[41] }   [guarded: some (8, false)]
        go_light
        intro L σ W' hcl hL hC hw
        have e8 : σ 8 = .bool false := hw 8 (by kernel_rfl)
        have e11 : σ 11 = .agg #[.int .i64 p.at_, .int .i64 p.v, .int .i64 p.r, .int .i64 p.t, .bool p.seen.s, .int .i64 p.seen.n, .bool p.seen.f, .int .i64 p.seen.v, .int .i64 p.tr, .int .i64 p.sp, .bool p.ag, .int .i64 p.re] := hw 11 (by kernel_rfl)
        clear hw
        have HC := Lib.hid hC
        clear hC
        clear hcl hL
        refine OpGoes.step fun K hK => ?_
        unfold OpGoes
        go_simp
        obtain ⟨hB, b3, b5, b7, b8, b10, b11⟩ := HC.out
        refine (shandOk_any p _).mono ?_
        rintro e w1 ⟨rfl, hb1⟩
        exact ⟨_, rfl, hK _ _ ⟨⟨bstep hB hB.size hb1, b3.below hb1 b3.lt, b5.below hb1 b5.lt, b7.below hb1 b7.lt, b8.below hb1 b8.lt, b10.below hb1 b10.lt, b11.below hb1 b11.lt⟩, rfl, hb1⟩⟩
      · -- 13: Op.binOp BinOp.neq 4 t53 t55 4   [guarded: some (8, false)]
        go_light
        intro L σ W' hcl hL hC hw
        have e8 : σ 8 = .bool false := hw 8 (by kernel_rfl)
        have e10 : σ 10 = .bool p.ok := hw 10 (by kernel_rfl)
        have e12 : σ 12 = .bool p.ok := hw 12 (by kernel_rfl)
        clear hw
        have HC := Lib.hid hC
        clear hC
        clear hcl hL
        refine OpGoes.step fun K hK => ?_
        unfold OpGoes
        go_simp
        obtain ⟨hB, b3, b5, b7, b8, b10, b11⟩ := HC.out
        exact hK _ _ ⟨⟨hB, b3, b5, b7, b8, b10, b11⟩, rfl, Below.refl _ _⟩
      · -- 14: Op.pick t51 (const (Value.bool true)) t56
        go_light
        intro L σ W' hcl hL hC hw
        have e8 : σ 8 = .bool false := hw 8 (by kernel_rfl)
        have e13 : σ 13 = .bool false := hw 13 (by kernel_rfl)
        clear hw
        have HC := Lib.hid hC
        clear hC
        clear hcl hL
        refine OpGoes.step fun K hK => ?_
        unfold OpGoes
        go_simp
        obtain ⟨hB, b3, b5, b7, b8, b10, b11⟩ := HC.out
        exact hK _ _ ⟨⟨hB, b3, b5, b7, b8, b10, b11⟩, rfl, Below.refl _ _⟩
      · -- 15: Op.move t57
        go_light
        intro L σ W' hcl hL hC hw
        have e14 : σ 14 = .bool false := hw 14 (by kernel_rfl)
        clear hw
        have HC := Lib.hid hC
        clear hC
        clear hcl hL
        refine OpGoes.step fun K hK => ?_
        unfold OpGoes
        go_simp
        obtain ⟨hB, b3, b5, b7, b8, b10, b11⟩ := HC.out
        exact hK _ _ ⟨⟨hB, b3, b5, b7, b8, b10, b11⟩, rfl, Below.refl _ _⟩
      · -- 16: Op.load 41 t10   [guarded: some (15, false)]
        go_light
        intro L σ W' hcl hL hC hw
        have e15 : σ 15 = .bool false := hw 15 (by kernel_rfl)
        clear hw
        have HC := Lib.hid hC
        obtain ⟨hB, b3, b5, b7, b8, b10, b11⟩ := hC
        have kb10 := b10.cell
        clear hcl hL
        clear hB b3 b5 b7 b8 b10 b11
        refine OpGoes.step fun K hK => ?_
        unfold OpGoes
        go_simp
        obtain ⟨hB, b3, b5, b7, b8, b10, b11⟩ := HC.out
        exact hK _ _ ⟨⟨hB, b3, b5, b7, b8, b10, b11⟩, rfl, Below.refl _ _⟩
      · -- 17: Op.call { value (Operand.func 26), args := #[t59], argTypes := #[41] }   [guarded: some (15, false)]
        go_light
        intro L σ W' hcl hL hC hw
        have e15 : σ 15 = .bool false := hw 15 (by kernel_rfl)
        have e16 : σ 16 = .agg #[.int .i64 p.at_, .int .i64 p.v, .int .i64 p.r, .int .i64 p.t, .bool p.seen.s, .int .i64 p.seen.n, .bool p.seen.f, .int .i64 p.seen.v, .int .i64 p.tr, .int .i64 p.sp, .bool p.ag, .int .i64 p.re] := hw 16 (by kernel_rfl)
        clear hw
        have HC := Lib.hid hC
        clear hC
        clear hcl hL
        refine OpGoes.step fun K hK => ?_
        unfold OpGoes
        go_simp
        obtain ⟨hB, b3, b5, b7, b8, b10, b11⟩ := HC.out
        refine (iisPutting_any p _).mono ?_
        rintro e w1 ⟨rfl, hb1⟩
        exact ⟨_, rfl, hK _ _ ⟨⟨bstep hB hB.size hb1, b3.below hb1 b3.lt, b5.below hb1 b5.lt, b7.below hb1 b7.lt, b8.below hb1 b8.lt, b10.below hb1 b10.lt, b11.below hb1 b11.lt⟩, rfl, hb1⟩⟩
      · -- 18: Op.load 41 t10   [guarded: some (15, false)]
        go_light
        intro L σ W' hcl hL hC hw
        have e15 : σ 15 = .bool false := hw 15 (by kernel_rfl)
        clear hw
        have HC := Lib.hid hC
        obtain ⟨hB, b3, b5, b7, b8, b10, b11⟩ := hC
        have kb10 := b10.cell
        clear hcl hL
        clear hB b3 b5 b7 b8 b10 b11
        refine OpGoes.step fun K hK => ?_
        unfold OpGoes
        go_simp
        obtain ⟨hB, b3, b5, b7, b8, b10, b11⟩ := HC.out
        exact hK _ _ ⟨⟨hB, b3, b5, b7, b8, b10, b11⟩, rfl, Below.refl _ _⟩
      · -- 19: Op.call { value (Operand.func 27), args := #[t61], argTypes := #[41] }   [guarded: some (15, false)]
        go_light
        intro L σ W' hcl hL hC hw
        have e15 : σ 15 = .bool false := hw 15 (by kernel_rfl)
        have e18 : σ 18 = .agg #[.int .i64 p.at_, .int .i64 p.v, .int .i64 p.r, .int .i64 p.t, .bool p.seen.s, .int .i64 p.seen.n, .bool p.seen.f, .int .i64 p.seen.v, .int .i64 p.tr, .int .i64 p.sp, .bool p.ag, .int .i64 p.re] := hw 18 (by kernel_rfl)
        clear hw
        have HC := Lib.hid hC
        clear hC
        clear hcl hL
        refine OpGoes.step fun K hK => ?_
        unfold OpGoes
        go_simp
        obtain ⟨hB, b3, b5, b7, b8, b10, b11⟩ := HC.out
        refine (sisPutting_any p _).mono ?_
        rintro e w1 ⟨rfl, hb1⟩
        exact ⟨_, rfl, hK _ _ ⟨⟨bstep hB hB.size hb1, b3.below hb1 b3.lt, b5.below hb1 b5.lt, b7.below hb1 b7.lt, b8.below hb1 b8.lt, b10.below hb1 b10.lt, b11.below hb1 b11.lt⟩, rfl, hb1⟩⟩
      · -- 20: Op.binOp BinOp.neq 4 t60 t62 4   [guarded: some (15, false)]
        go_light
        intro L σ W' hcl hL hC hw
        have e15 : σ 15 = .bool false := hw 15 (by kernel_rfl)
        have e17 : σ 17 = .bool ((isPutting p)) := hw 17 (by kernel_rfl)
        have e19 : σ 19 = .bool ((isPutting p)) := hw 19 (by kernel_rfl)
        clear hw
        have HC := Lib.hid hC
        clear hC
        clear hcl hL
        refine OpGoes.step fun K hK => ?_
        unfold OpGoes
        go_simp
        obtain ⟨hB, b3, b5, b7, b8, b10, b11⟩ := HC.out
        exact hK _ _ ⟨⟨hB, b3, b5, b7, b8, b10, b11⟩, rfl, Below.refl _ _⟩
      · -- 21: Op.pick t58 (const (Value.bool true)) t63
        go_light
        intro L σ W' hcl hL hC hw
        have e15 : σ 15 = .bool false := hw 15 (by kernel_rfl)
        have e20 : σ 20 = .bool false := hw 20 (by kernel_rfl)
        clear hw
        have HC := Lib.hid hC
        clear hC
        clear hcl hL
        refine OpGoes.step fun K hK => ?_
        unfold OpGoes
        go_simp
        obtain ⟨hB, b3, b5, b7, b8, b10, b11⟩ := HC.out
        exact hK _ _ ⟨⟨hB, b3, b5, b7, b8, b10, b11⟩, rfl, Below.refl _ _⟩
      · -- 22: Op.move t64
        go_light
        intro L σ W' hcl hL hC hw
        have e21 : σ 21 = .bool false := hw 21 (by kernel_rfl)
        clear hw
        have HC := Lib.hid hC
        clear hC
        clear hcl hL
        refine OpGoes.step fun K hK => ?_
        unfold OpGoes
        go_simp
        obtain ⟨hB, b3, b5, b7, b8, b10, b11⟩ := HC.out
        exact hK _ _ ⟨⟨hB, b3, b5, b7, b8, b10, b11⟩, rfl, Below.refl _ _⟩
      · -- 23: Op.call { value (Operand.func 28), args := #[], argTypes := #[] }   [guarded: some (22, false)]
        go_light
        intro L σ W' hcl hL hC hw
        have e22 : σ 22 = .bool false := hw 22 (by kernel_rfl)
        clear hw
        have HC := Lib.hid hC
        clear hC
        clear hcl hL
        refine OpGoes.step fun K hK => ?_
        unfold OpGoes
        go_simp
        obtain ⟨hB, b3, b5, b7, b8, b10, b11⟩ := HC.out
        refine (iresting_any _).mono ?_
        rintro e w1 ⟨rfl, hb1⟩
        exact ⟨_, rfl, hK _ _ ⟨⟨bstep hB hB.size hb1, b3.below hb1 b3.lt, b5.below hb1 b5.lt, b7.below hb1 b7.lt, b8.below hb1 b8.lt, b10.below hb1 b10.lt, b11.below hb1 b11.lt⟩, rfl, hb1⟩⟩
      · -- 24: Op.call { value (Operand.func 29), args := #[], argTypes := #[] }   [guarded: some (22, false)]
        go_light
        intro L σ W' hcl hL hC hw
        have e22 : σ 22 = .bool false := hw 22 (by kernel_rfl)
        clear hw
        have HC := Lib.hid hC
        clear hC
        clear hcl hL
        refine OpGoes.step fun K hK => ?_
        unfold OpGoes
        go_simp
        obtain ⟨hB, b3, b5, b7, b8, b10, b11⟩ := HC.out
        refine (sresting_any _).mono ?_
        rintro e w1 ⟨rfl, hb1⟩
        exact ⟨_, rfl, hK _ _ ⟨⟨bstep hB hB.size hb1, b3.below hb1 b3.lt, b5.below hb1 b5.lt, b7.below hb1 b7.lt, b8.below hb1 b8.lt, b10.below hb1 b10.lt, b11.below hb1 b11.lt⟩, rfl, hb1⟩⟩
      · -- 25: Op.binOp BinOp.neq 41 t66 t67 41   [guarded: some (22, false)]
        go_light
        intro L σ W' hcl hL hC hw
        have e22 : σ 22 = .bool false := hw 22 (by kernel_rfl)
        have e23 : σ 23 = .agg #[.int .i64 resting.at_, .int .i64 resting.v, .int .i64 resting.r, .int .i64 resting.t, .bool resting.seen.s, .int .i64 resting.seen.n, .bool resting.seen.f, .int .i64 resting.seen.v, .int .i64 resting.tr, .int .i64 resting.sp, .bool resting.ag, .int .i64 resting.re] := hw 23 (by kernel_rfl)
        have e24 : σ 24 = .agg #[.int .i64 resting.at_, .int .i64 resting.v, .int .i64 resting.r, .int .i64 resting.t, .bool resting.seen.s, .int .i64 resting.seen.n, .bool resting.seen.f, .int .i64 resting.seen.v, .int .i64 resting.tr, .int .i64 resting.sp, .bool resting.ag, .int .i64 resting.re] := hw 24 (by kernel_rfl)
        clear hw
        have HC := Lib.hid hC
        clear hC
        clear hcl hL
        refine OpGoes.step fun K hK => ?_
        unfold OpGoes
        go_simp
        obtain ⟨hB, b3, b5, b7, b8, b10, b11⟩ := HC.out
        exact hK _ _ ⟨⟨hB, b3, b5, b7, b8, b10, b11⟩, rfl, Below.refl _ _⟩
      · -- 26: Op.pick t65 (const (Value.bool true)) t68
        go_light
        intro L σ W' hcl hL hC hw
        have e22 : σ 22 = .bool false := hw 22 (by kernel_rfl)
        have e25 : σ 25 = .bool false := hw 25 (by kernel_rfl)
        clear hw
        have HC := Lib.hid hC
        clear hC
        clear hcl hL
        refine OpGoes.step fun K hK => ?_
        unfold OpGoes
        go_simp
        obtain ⟨hB, b3, b5, b7, b8, b10, b11⟩ := HC.out
        exact hK _ _ ⟨⟨hB, b3, b5, b7, b8, b10, b11⟩, rfl, Below.refl _ _⟩
      · -- 27: Op.move t69
        go_light
        intro L σ W' hcl hL hC hw
        have e26 : σ 26 = .bool false := hw 26 (by kernel_rfl)
        clear hw
        have HC := Lib.hid hC
        clear hC
        clear hcl hL
        refine OpGoes.step fun K hK => ?_
        unfold OpGoes
        go_simp
        obtain ⟨hB, b3, b5, b7, b8, b10, b11⟩ := HC.out
        exact hK _ _ ⟨⟨hB, b3, b5, b7, b8, b10, b11⟩, rfl, Below.refl _ _⟩
      · -- 28: Op.call { value (Operand.func 28), args := #[], argTypes := #[] }   [guarded: some (27, false)]
        go_light
        intro L σ W' hcl hL hC hw
        have e27 : σ 27 = .bool false := hw 27 (by kernel_rfl)
        clear hw
        have HC := Lib.hid hC
        clear hC
        clear hcl hL
        refine OpGoes.step fun K hK => ?_
        unfold OpGoes
        go_simp
        obtain ⟨hB, b3, b5, b7, b8, b10, b11⟩ := HC.out
        refine (iresting_any _).mono ?_
        rintro e w1 ⟨rfl, hb1⟩
        exact ⟨_, rfl, hK _ _ ⟨⟨bstep hB hB.size hb1, b3.below hb1 b3.lt, b5.below hb1 b5.lt, b7.below hb1 b7.lt, b8.below hb1 b8.lt, b10.below hb1 b10.lt, b11.below hb1 b11.lt⟩, rfl, hb1⟩⟩
      · -- 29: Op.call { value (Operand.func 24), args := #[t71], argTypes := #[41] }   [guarded: some (27, false)]
        go_light
        intro L σ W' hcl hL hC hw
        have e27 : σ 27 = .bool false := hw 27 (by kernel_rfl)
        have e28 : σ 28 = .agg #[.int .i64 resting.at_, .int .i64 resting.v, .int .i64 resting.r, .int .i64 resting.t, .bool resting.seen.s, .int .i64 resting.seen.n, .bool resting.seen.f, .int .i64 resting.seen.v, .int .i64 resting.tr, .int .i64 resting.sp, .bool resting.ag, .int .i64 resting.re] := hw 28 (by kernel_rfl)
        clear hw
        have HC := Lib.hid hC
        clear hC
        clear hcl hL
        refine OpGoes.step fun K hK => ?_
        unfold OpGoes
        go_simp
        obtain ⟨hB, b3, b5, b7, b8, b10, b11⟩ := HC.out
        refine (ihandOk_rest _).mono ?_
        rintro e w1 ⟨rfl, hb1⟩
        exact ⟨_, rfl, hK _ _ ⟨⟨bstep hB hB.size hb1, b3.below hb1 b3.lt, b5.below hb1 b5.lt, b7.below hb1 b7.lt, b8.below hb1 b8.lt, b10.below hb1 b10.lt, b11.below hb1 b11.lt⟩, rfl, hb1⟩⟩
      · -- 30: Op.unOp UnOp.not 4 t72   [guarded: some (27, false)]
        go_light
        intro L σ W' hcl hL hC hw
        have e27 : σ 27 = .bool false := hw 27 (by kernel_rfl)
        have e29 : σ 29 = .bool true := hw 29 (by kernel_rfl)
        clear hw
        have HC := Lib.hid hC
        clear hC
        clear hcl hL
        refine OpGoes.step fun K hK => ?_
        unfold OpGoes
        go_simp
        obtain ⟨hB, b3, b5, b7, b8, b10, b11⟩ := HC.out
        exact hK _ _ ⟨⟨hB, b3, b5, b7, b8, b10, b11⟩, rfl, Below.refl _ _⟩
      · -- 31: Op.pick t70 (const (Value.bool true)) t73
        go_light
        intro L σ W' hcl hL hC hw
        have e27 : σ 27 = .bool false := hw 27 (by kernel_rfl)
        have e30 : σ 30 = .bool false := hw 30 (by kernel_rfl)
        clear hw
        have HC := Lib.hid hC
        clear hC
        clear hcl hL
        refine OpGoes.step fun K hK => ?_
        unfold OpGoes
        go_simp
        obtain ⟨hB, b3, b5, b7, b8, b10, b11⟩ := HC.out
        exact hK _ _ ⟨⟨hB, b3, b5, b7, b8, b10, b11⟩, rfl, Below.refl _ _⟩
      · intro σ L W' hall hC hR
        obtain ⟨hB, b3, b5, b7, b8, b10, b11⟩ := hC
        have e31 : σ 31 = .bool false := hR 31 (by decide)
        clear hR
        simp only [lexAll]
        go_simp
        go_step
        go_meet
        exact ⟨hB, b3, b5, b7, b8, b10, b11, rfl⟩
    case rest =>
      clear hB b3 b5 b7 b8 b10 b11
      obtain ⟨hB, b3, b5, b7, b8, b10, b11, rfl⟩ := hcut
      have lb3 := b3.lt
      have lb5 := b5.lt
      have lb7 := b7.lt
      have lb8 := b8.lt
      have lb10 := b10.lt
      have lb11 := b11.lt
      have kb3 := b3.cell
      have kb5 := b5.cell
      have kb7 := b7.cell
      have kb8 := b8.cell
      have kb10 := b10.cell
      have kb11 := b11.cell
      go_wp2_with fail
      clear kb3 kb5 kb7 kb8 kb10 kb11
      refine (HTS _).mono ?_
      rintro e w7 ⟨rfl, hb⟩
      replace b3 := b3.below hb b3.lt
      replace b5 := b5.below hb b5.lt
      replace b7 := b7.below hb b7.lt
      replace b8 := b8.below hb b8.lt
      replace b10 := b10.below hb b10.lt
      replace b11 := b11.below hb b11.lt
      replace hB := bstep hB hB.size hb
      clear hb
      unfold hdV
      have lb3 := b3.lt
      have lb5 := b5.lt
      have lb7 := b7.lt
      have lb8 := b8.lt
      have lb10 := b10.lt
      have lb11 := b11.lt
      go_upto_region 12 with fail
      refine wp_abs (fun W => Below w.heap.size w W ∧ BoxAt W g3 #[.int .i64 h.at_, .int .i64 h.v, .int .i64 h.r, .int .i64 h.t, .bool h.seen.s, .int .i64 h.seen.n, .bool h.seen.f, .int .i64 h.seen.v, .int .i64 h.tr, .int .i64 h.sp, .bool h.ag, .int .i64 h.re] 41 ∧ BoxAt W g5 #[.int .i64 x.at_, .int .i64 x.v, .int .i64 x.r, .int .i64 x.t, .bool x.seen.s, .int .i64 x.seen.n, .bool x.seen.f, .int .i64 x.seen.v, .int .i64 x.tr, .int .i64 x.sp, .bool x.ag, .int .i64 x.re] 41 ∧ BoxAt W g7 #[.int .i64 q.at_, .int .i64 q.v, .int .i64 q.r, .int .i64 q.t, .bool q.seen.s, .int .i64 q.seen.n, .bool q.seen.f, .int .i64 q.seen.v, .int .i64 q.tr, .int .i64 q.sp, .bool q.ag, .int .i64 q.re] 41 ∧ BoxAt W g8 #[.int .i64 y.at_, .int .i64 y.v, .int .i64 y.r, .int .i64 y.t, .bool y.seen.s, .int .i64 y.seen.n, .bool y.seen.f, .int .i64 y.seen.v, .int .i64 y.tr, .int .i64 y.sp, .bool y.ag, .int .i64 y.re] 41 ∧ BoxAt W g10 #[.int .i64 p.at_, .int .i64 p.v, .int .i64 p.r, .int .i64 p.t, .bool p.seen.s, .int .i64 p.seen.n, .bool p.seen.f, .int .i64 p.seen.v, .int .i64 p.tr, .int .i64 p.sp, .bool p.ag, .int .i64 p.re] 41 ∧ BoxAt W g11 #[.int .i64 x.at_, .int .i64 x.v, .int .i64 x.r, .int .i64 x.t, .bool x.seen.s, .int .i64 x.seen.n, .bool x.seen.f, .int .i64 x.seen.v, .int .i64 x.tr, .int .i64 x.sp, .bool x.ag, .int .i64 x.re] 41 ∧ BoxAt W w7.heap.size #[.int .i64 y.at_, .int .i64 y.v, .int .i64 y.r, .int .i64 y.t, .bool y.seen.s, .int .i64 y.seen.n, .bool y.seen.f, .int .i64 y.seen.v, .int .i64 y.tr, .int .i64 y.sp, .bool y.ag, .int .i64 y.re] 41) ⟨hB.alloc hB.size _, b3.alloc _, b5.alloc _, b7.alloc _, b8.alloc _, b10.alloc _, b11.alloc _, BoxAt.new _ _ _⟩ ?_
      clear hB b3 b5 b7 b8 b10 b11
      generalize w7.heap.size = g13 at *
      rintro W7 ⟨hB, b3, b5, b7, b8, b10, b11, b13⟩
      go_cut [106] (fun u106 W' => Below w.heap.size w W' ∧ BoxAt W' g3 #[.int .i64 h.at_, .int .i64 h.v, .int .i64 h.r, .int .i64 h.t, .bool h.seen.s, .int .i64 h.seen.n, .bool h.seen.f, .int .i64 h.seen.v, .int .i64 h.tr, .int .i64 h.sp, .bool h.ag, .int .i64 h.re] 41 ∧ BoxAt W' g5 #[.int .i64 x.at_, .int .i64 x.v, .int .i64 x.r, .int .i64 x.t, .bool x.seen.s, .int .i64 x.seen.n, .bool x.seen.f, .int .i64 x.seen.v, .int .i64 x.tr, .int .i64 x.sp, .bool x.ag, .int .i64 x.re] 41 ∧ BoxAt W' g7 #[.int .i64 q.at_, .int .i64 q.v, .int .i64 q.r, .int .i64 q.t, .bool q.seen.s, .int .i64 q.seen.n, .bool q.seen.f, .int .i64 q.seen.v, .int .i64 q.tr, .int .i64 q.sp, .bool q.ag, .int .i64 q.re] 41 ∧ BoxAt W' g8 #[.int .i64 y.at_, .int .i64 y.v, .int .i64 y.r, .int .i64 y.t, .bool y.seen.s, .int .i64 y.seen.n, .bool y.seen.f, .int .i64 y.seen.v, .int .i64 y.tr, .int .i64 y.sp, .bool y.ag, .int .i64 y.re] 41 ∧ BoxAt W' g10 #[.int .i64 p.at_, .int .i64 p.v, .int .i64 p.r, .int .i64 p.t, .bool p.seen.s, .int .i64 p.seen.n, .bool p.seen.f, .int .i64 p.seen.v, .int .i64 p.tr, .int .i64 p.sp, .bool p.ag, .int .i64 p.re] 41 ∧ BoxAt W' g11 #[.int .i64 x.at_, .int .i64 x.v, .int .i64 x.r, .int .i64 x.t, .bool x.seen.s, .int .i64 x.seen.n, .bool x.seen.f, .int .i64 x.seen.v, .int .i64 x.tr, .int .i64 x.sp, .bool x.ag, .int .i64 x.re] 41 ∧ BoxAt W' g13 #[.int .i64 y.at_, .int .i64 y.v, .int .i64 y.r, .int .i64 y.t, .bool y.seen.s, .int .i64 y.seen.n, .bool y.seen.f, .int .i64 y.seen.v, .int .i64 y.tr, .int .i64 y.sp, .bool y.ag, .int .i64 y.re] 41 ∧ u106 = .bool false)
      case first =>
        cases fine
        · have kb3 := b3.cell
          have kb5 := b5.cell
          have kb7 := b7.cell
          have kb8 := b8.cell
          have kb10 := b10.cell
          have kb11 := b11.cell
          have kb13 := b13.cell
          go_wp2
          go_meet
          exact ⟨hB, b3, b5, b7, b8, b10, b11, b13, rfl⟩
        · obtain ⟨f1, f2, f3⟩ := toTake_yes HT.out
          have f2' : (y.at_ != 13) = false := by simp [f2]
          have f3' : (y.sp != q.sp) = false := by simp [f3]
          clear f2 f3
          have kb3 := b3.cell
          have kb5 := b5.cell
          have kb7 := b7.cell
          have kb8 := b8.cell
          have kb10 := b10.cell
          have kb11 := b11.cell
          have kb13 := b13.cell
          go_wp2_with fail
          clear kb3 kb5 kb7 kb8 kb10 kb11 kb13
          refine (iisPutting_is y false _ f1).mono ?_
          rintro e w8 ⟨rfl, hb⟩
          replace b3 := b3.below hb b3.lt
          replace b5 := b5.below hb b5.lt
          replace b7 := b7.below hb b7.lt
          replace b8 := b8.below hb b8.lt
          replace b10 := b10.below hb b10.lt
          replace b11 := b11.below hb b11.lt
          replace b13 := b13.below hb b13.lt
          replace hB := bstep hB hB.size hb
          clear hb
          have kb3 := b3.cell
          have kb5 := b5.cell
          have kb7 := b7.cell
          have kb8 := b8.cell
          have kb10 := b10.cell
          have kb11 := b11.cell
          have kb13 := b13.cell
          go_wp2
          go_meet
          exact ⟨hB, b3, b5, b7, b8, b10, b11, b13, rfl⟩
      case rest =>
        clear hB b3 b5 b7 b8 b10 b11 b13
        obtain ⟨hB, b3, b5, b7, b8, b10, b11, b13, rfl⟩ := hcut
        cases is
        · have kb3 := b3.cell
          have kb5 := b5.cell
          have kb7 := b7.cell
          have kb8 := b8.cell
          have kb10 := b10.cell
          have kb11 := b11.cell
          have kb13 := b13.cell
          go_wp2_with fail
          clear kb3 kb5 kb7 kb8 kb10 kb11 kb13
          refine (shandOk_any h _).mono ?_
          rintro e w9 ⟨rfl, hb⟩
          replace b3 := b3.below hb b3.lt
          replace b5 := b5.below hb b5.lt
          replace b7 := b7.below hb b7.lt
          replace b8 := b8.below hb b8.lt
          replace b10 := b10.below hb b10.lt
          replace b11 := b11.below hb b11.lt
          replace b13 := b13.below hb b13.lt
          replace hB := bstep hB hB.size hb
          clear hb
          cases hho : h.ok
          · obtain rfl : x = Hd.zero := toPut_zero HP.out hho
            simp only [Hd.zero] at b5
            have kb3 := b3.cell
            have kb5 := b5.cell
            have kb7 := b7.cell
            have kb8 := b8.cell
            have kb10 := b10.cell
            have kb11 := b11.cell
            have kb13 := b13.cell
            go_wp2
            go_ret
            exact .mk rfl hB
          · obtain rfl : x = h := toPut_same HP.out hho
            have kb3 := b3.cell
            have kb5 := b5.cell
            have kb7 := b7.cell
            have kb8 := b8.cell
            have kb10 := b10.cell
            have kb11 := b11.cell
            have kb13 := b13.cell
            go_wp2
            go_ret
            exact .mk rfl hB
        · obtain ⟨rfl, hxo, hxp⟩ := toPut_yes HP.out
          have HXO := Lib.hid hxo
          have HXP := Lib.hid hxp
          clear hxo hxp
          simp only [Hd.zero] at b5
          have kb3 := b3.cell
          have kb5 := b5.cell
          have kb7 := b7.cell
          have kb8 := b8.cell
          have kb10 := b10.cell
          have kb11 := b11.cell
          have kb13 := b13.cell
          go_wp2_with fail
          clear kb3 kb5 kb7 kb8 kb10 kb11 kb13
          refine (iisPutting_is { Hd.zero with at_ := 1, v := v, sp := h.sp } true _ HXP.out).mono ?_
          rintro e w9 ⟨rfl, hb⟩
          replace b3 := b3.below hb b3.lt
          replace b5 := b5.below hb b5.lt
          replace b7 := b7.below hb b7.lt
          replace b8 := b8.below hb b8.lt
          replace b10 := b10.below hb b10.lt
          replace b11 := b11.below hb b11.lt
          replace b13 := b13.below hb b13.lt
          replace hB := bstep hB hB.size hb
          clear hb
          have kb3 := b3.cell
          have kb5 := b5.cell
          have kb7 := b7.cell
          have kb8 := b8.cell
          have kb10 := b10.cell
          have kb11 := b11.cell
          have kb13 := b13.cell
          go_wp2_with fail
          clear kb3 kb5 kb7 kb8 kb10 kb11 kb13
          refine (ihandOk_is { Hd.zero with at_ := 1, v := v, sp := h.sp } true _ HXO.out).mono ?_
          rintro e w10 ⟨rfl, hb⟩
          replace b3 := b3.below hb b3.lt
          replace b5 := b5.below hb b5.lt
          replace b7 := b7.below hb b7.lt
          replace b8 := b8.below hb b8.lt
          replace b10 := b10.below hb b10.lt
          replace b11 := b11.below hb b11.lt
          replace b13 := b13.below hb b13.lt
          replace hB := bstep hB hB.size hb
          clear hb
          have kb3 := b3.cell
          have kb5 := b5.cell
          have kb7 := b7.cell
          have kb8 := b8.cell
          have kb10 := b10.cell
          have kb11 := b11.cell
          have kb13 := b13.cell
          go_wp2
          go_ret
          exact .mk rfl hB

end Go.Proofs.Ytbdgkmamieagfaa
