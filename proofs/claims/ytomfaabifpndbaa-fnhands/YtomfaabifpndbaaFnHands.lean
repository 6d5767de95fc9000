/-
  The law on hands holds: for every code that is drawn from, who rests may be put to put, or to take, and is at the first thing then. No conditions.
-/
import Derived.Test.YtomfaabifpndbaaDrwF
import Derived.Test.YtomfaabifpndbaaHanI
namespace Go.Proofs.Ytomfaabifpndbaa
set_option linter.unusedSimpArgs false
set_option linter.unusedVariables false
open Go.RowKit
set_option linter.unusedVariables false
attribute [local go_sem] OpUpon
attribute [local go_sem ↓] Go.wp_at_zero Go.wp_at_succ

theorem ihandOk_is (h : Hd) (z : Bool) (w : World) (hz : h.ok = z) : Calls Try.prog 12 #[hdV h] w (RetBelow (.bool z) w) := by rw [← hz]; exact ihandOk_any h w
theorem ihandOk_rest (w : World) : Calls Try.prog 12 #[hdV resting] w (RetBelow (.bool true) w) := ihandOk_is resting true w (by decide)
theorem iisPutting_is (h : Hd) (z : Bool) (w : World) (hz : isPutting h = z) : Calls Try.prog 14 #[hdV h] w (RetBelow (.bool z) w) := by rw [← hz]; exact iisPutting_any h w
theorem toTake_yes {q y : Hd} (h : toTake q = (y, true)) : isPutting y = false ∧ y.at_ = 13 ∧ y.sp = q.sp := by
  unfold toTake at h
  split at h
  · cases h
  · split at h
    · cases h
    · injection h with h
      subst h
      refine ⟨?_, rfl, rfl⟩
      unfold isPutting
      rw [show putB 13 = false by decide, Bool.and_false]
theorem toPut_zero {h x : Hd} {v : Int} (e : toPut h v = (x, false)) (ho : h.ok = false) : x = Hd.zero := by
  unfold toPut at e
  rw [ho] at e
  injection e with e
  exact e.symm
theorem toPut_same {h x : Hd} {v : Int} (e : toPut h v = (x, false)) (ho : h.ok = true) : x = h := by
  unfold toPut at e
  rw [ho] at e
  rw [if_neg (by decide)] at e
  split at e
  · injection e with e
    exact e.symm
  · cases e
theorem toPut_yes {h x : Hd} {v : Int} (e : toPut h v = (x, true)) : x = { Hd.zero with at_ := 1, v := v, sp := h.sp } ∧ ({ Hd.zero with at_ := 1, v := v, sp := h.sp } : Hd).ok = true ∧ isPutting { Hd.zero with at_ := 1, v := v, sp := h.sp } = true := by
  have e0 := e
  rw [← begun_put] at e0
  unfold begunH at e0
  split at e0
  · cases e0
  · split at e0
    · cases e0
    · rename_i h1 h2
      injection e0 with e0
      have hok : ({ Hd.zero with at_ := 1, v := v, sp := h.sp } : Hd).ok = true := by
        simp only [Bool.or_eq_true, not_or, Bool.not_eq_true', Bool.not_eq_false] at h2
        exact h2.2
      exact ⟨e0.symm, hok, by unfold isPutting; rw [hok]; rfl⟩

set_option maxHeartbeats 400000 in
theorem big_any (a0 : Option Addr) (len cap : Nat) (w : World) : Calls Try.prog 5 #[.slice a0 len cap] w (Quiet1 (.bool (decide (4096 < (len : Int)))) w) := by
  go_enter Try.func5, Try.ntmps5
  go_wp2
  go_ret
  exact ⟨rfl, rfl⟩

def fhRV (h x q y p : Hd) (v : Int) (is fine : Bool) (g3 g5 g7 g8 g10 g11 : Nat) : List Sl := [.v (.agg #[.int .i64 x.at_, .int .i64 x.v, .int .i64 x.r, .int .i64 x.t, .bool x.seen.s, .int .i64 x.seen.n, .bool x.seen.f, .int .i64 x.seen.v, .int .i64 x.tr, .int .i64 x.sp, .bool x.ag, .int .i64 x.re]),
  .v (.agg #[.int .i64 x.at_, .int .i64 x.v, .int .i64 x.r, .int .i64 x.t, .bool x.seen.s, .int .i64 x.seen.n, .bool x.seen.f, .int .i64 x.seen.v, .int .i64 x.tr, .int .i64 x.sp, .bool x.ag, .int .i64 x.re]),
  .v (.bool false),
  .v (.bool false),
  .v (.bool is),
  .v (.bool is),
  .v (.bool false),
  .v (.bool false),
  .v (.bool false),
  .v (.agg #[.int .i64 p.at_, .int .i64 p.v, .int .i64 p.r, .int .i64 p.t, .bool p.seen.s, .int .i64 p.seen.n, .bool p.seen.f, .int .i64 p.seen.v, .int .i64 p.tr, .int .i64 p.sp, .bool p.ag, .int .i64 p.re]),
  .v (.bool p.ok),
  .v (.agg #[.int .i64 p.at_, .int .i64 p.v, .int .i64 p.r, .int .i64 p.t, .bool p.seen.s, .int .i64 p.seen.n, .bool p.seen.f, .int .i64 p.seen.v, .int .i64 p.tr, .int .i64 p.sp, .bool p.ag, .int .i64 p.re]),
  .v (.bool p.ok),
  .v (.bool false),
  .v (.bool false),
  .v (.bool false),
  .v (.agg #[.int .i64 p.at_, .int .i64 p.v, .int .i64 p.r, .int .i64 p.t, .bool p.seen.s, .int .i64 p.seen.n, .bool p.seen.f, .int .i64 p.seen.v, .int .i64 p.tr, .int .i64 p.sp, .bool p.ag, .int .i64 p.re]),
  .v (.bool ((isPutting p))),
  .v (.agg #[.int .i64 p.at_, .int .i64 p.v, .int .i64 p.r, .int .i64 p.t, .bool p.seen.s, .int .i64 p.seen.n, .bool p.seen.f, .int .i64 p.seen.v, .int .i64 p.tr, .int .i64 p.sp, .bool p.ag, .int .i64 p.re]),
  .v (.bool ((isPutting p))),
  .v (.bool false),
  .v (.bool false),
  .v (.bool false),
  .v (.agg #[.int .i64 resting.at_, .int .i64 resting.v, .int .i64 resting.r, .int .i64 resting.t, .bool resting.seen.s, .int .i64 resting.seen.n, .bool resting.seen.f, .int .i64 resting.seen.v, .int .i64 resting.tr, .int .i64 resting.sp, .bool resting.ag, .int .i64 resting.re]),
  .v (.agg #[.int .i64 resting.at_, .int .i64 resting.v, .int .i64 resting.r, .int .i64 resting.t, .bool resting.seen.s, .int .i64 resting.seen.n, .bool resting.seen.f, .int .i64 resting.seen.v, .int .i64 resting.tr, .int .i64 resting.sp, .bool resting.ag, .int .i64 resting.re]),
  .v (.bool false),
  .v (.bool false),
  .v (.bool false),
  .v (.agg #[.int .i64 resting.at_, .int .i64 resting.v, .int .i64 resting.r, .int .i64 resting.t, .bool resting.seen.s, .int .i64 resting.seen.n, .bool resting.seen.f, .int .i64 resting.seen.v, .int .i64 resting.tr, .int .i64 resting.sp, .bool resting.ag, .int .i64 resting.re]),
  .v (.bool true),
  .v (.bool false),
  .v (.bool false)]

set_option maxRecDepth 100000 in
set_option maxHeartbeats 8000000 in
theorem fnHands_any (a0 : Option Addr) (len cap : Nat) (w : World) (hc : CodeOk w.heap.size w a0 len) :
    Calls Try.prog 3 #[.slice a0 len cap] w (RetBelow (.bool true) w) := by
  by_cases hl : 4096 < (len : Int)
  · have hl' : decide (4096 < (len : Int)) = true := decide_eq_true hl
    go_enter Try.func3, Try.ntmps3
    go_wp2_with fail
    refine (big_any _ _ _ _).mono ?_
    rintro e w' ⟨rfl, rfl⟩
    go_wp2
    go_ret
    exact .mk rfl (Below.refl _ _)
  · have hl' : decide (4096 < (len : Int)) = false := decide_eq_false hl
    go_enter Try.func3, Try.ntmps3
    go_wp2_with fail
    refine (big_any _ _ _ _).mono ?_
    rintro e w' ⟨rfl, rfl⟩
    go_wp2_with fail
    refine (drawToPut_any a0 len cap _ hc).mono ?_
    rintro e w1 ⟨h, v, rfl, hB⟩
    have HPI := itoPut_any h v
    have HPS := stoPut_any h v
    generalize hP : toPut h v = P at *
    obtain ⟨x, is⟩ := P
    have HP := Lib.hid hP; clear hP
    unfold hdV
    go_wp2_with fail
    refine calls_abs (fun W => Below w.heap.size w W ∧ BoxAt W w1.heap.size #[.int .i64 h.at_, .int .i64 h.v, .int .i64 h.r, .int .i64 h.t, .bool h.seen.s, .int .i64 h.seen.n, .bool h.seen.f, .int .i64 h.seen.v, .int .i64 h.tr, .int .i64 h.sp, .bool h.ag, .int .i64 h.re] 27) ⟨hB.alloc hB.size _, BoxAt.new _ _ _⟩ ?_
    clear hB 
    generalize w1.heap.size = g3 at *
    rintro W1 ⟨hB, b3⟩
    refine (HPI _).mono ?_
    rintro e w2 ⟨rfl, hb⟩
    replace b3 := b3.below hb b3.lt
    replace hB := bstep hB hB.size hb
    clear hb
    have lb3 := b3.lt
    unfold hdV
    have kb3 := b3.cell
    go_wp2_with fail
    clear kb3
    refine calls_abs (fun W => Below w.heap.size w W ∧ BoxAt W g3 #[.int .i64 h.at_, .int .i64 h.v, .int .i64 h.r, .int .i64 h.t, .bool h.seen.s, .int .i64 h.seen.n, .bool h.seen.f, .int .i64 h.seen.v, .int .i64 h.tr, .int .i64 h.sp, .bool h.ag, .int .i64 h.re] 27 ∧ BoxAt W w2.heap.size #[.int .i64 x.at_, .int .i64 x.v, .int .i64 x.r, .int .i64 x.t, .bool x.seen.s, .int .i64 x.seen.n, .bool x.seen.f, .int .i64 x.seen.v, .int .i64 x.tr, .int .i64 x.sp, .bool x.ag, .int .i64 x.re] 27) ⟨hB.alloc hB.size _, b3.alloc _, BoxAt.new _ _ _⟩ ?_
    clear hB b3
    generalize w2.heap.size = g5 at *
    rintro W2 ⟨hB, b3, b5⟩
    refine (drawToTake_any a0 len cap _ ((hc.below hB).le hB.size)).mono ?_
    rintro e w3 ⟨q, rfl, hb⟩
    replace b3 := b3.below hb b3.lt
    replace b5 := b5.below hb b5.lt
    replace hB := bstep hB hB.size hb
    clear hb
    have HTI := itoTake_any q
    have HTS := stoTake_any q
    generalize hT : toTake q = T at *
    obtain ⟨y, fine⟩ := T
    have HT := Lib.hid hT; clear hT
    unfold hdV
    have lb3 := b3.lt
    have lb5 := b5.lt
    have kb3 := b3.cell
    have kb5 := b5.cell
    go_wp2_with fail
    clear kb3 kb5
    refine calls_abs (fun W => Below w.heap.size w W ∧ BoxAt W g3 #[.int .i64 h.at_, .int .i64 h.v, .int .i64 h.r, .int .i64 h.t, .bool h.seen.s, .int .i64 h.seen.n, .bool h.seen.f, .int .i64 h.seen.v, .int .i64 h.tr, .int .i64 h.sp, .bool h.ag, .int .i64 h.re] 27 ∧ BoxAt W g5 #[.int .i64 x.at_, .int .i64 x.v, .int .i64 x.r, .int .i64 x.t, .bool x.seen.s, .int .i64 x.seen.n, .bool x.seen.f, .int .i64 x.seen.v, .int .i64 x.tr, .int .i64 x.sp, .bool x.ag, .int .i64 x.re] 27 ∧ BoxAt W w3.heap.size #[.int .i64 q.at_, .int .i64 q.v, .int .i64 q.r, .int .i64 q.t, .bool q.seen.s, .int .i64 q.seen.n, .bool q.seen.f, .int .i64 q.seen.v, .int .i64 q.tr, .int .i64 q.sp, .bool q.ag, .int .i64 q.re] 27) ⟨hB.alloc hB.size _, b3.alloc _, b5.alloc _, BoxAt.new _ _ _⟩ ?_
    clear hB b3 b5
    generalize w3.heap.size = g7 at *
    rintro W3 ⟨hB, b3, b5, b7⟩
    refine (HTI _).mono ?_
    rintro e w4 ⟨rfl, hb⟩
    replace b3 := b3.below hb b3.lt
    replace b5 := b5.below hb b5.lt
    replace b7 := b7.below hb b7.lt
    replace hB := bstep hB hB.size hb
    clear hb
    unfold hdV
    have lb3 := b3.lt
    have lb5 := b5.lt
    have lb7 := b7.lt
    have kb3 := b3.cell
    have kb5 := b5.cell
    have kb7 := b7.cell
    go_wp2_with fail
    clear kb3 kb5 kb7
    refine calls_abs (fun W => Below w.heap.size w W ∧ BoxAt W g3 #[.int .i64 h.at_, .int .i64 h.v, .int .i64 h.r, .int .i64 h.t, .bool h.seen.s, .int .i64 h.seen.n, .bool h.seen.f, .int .i64 h.seen.v, .int .i64 h.tr, .int .i64 h.sp, .bool h.ag, .int .i64 h.re] 27 ∧ BoxAt W g5 #[.int .i64 x.at_, .int .i64 x.v, .int .i64 x.r, .int .i64 x.t, .bool x.seen.s, .int .i64 x.seen.n, .bool x.seen.f, .int .i64 x.seen.v, .int .i64 x.tr, .int .i64 x.sp, .bool x.ag, .int .i64 x.re] 27 ∧ BoxAt W g7 #[.int .i64 q.at_, .int .i64 q.v, .int .i64 q.r, .int .i64 q.t, .bool q.seen.s, .int .i64 q.seen.n, .bool q.seen.f, .int .i64 q.seen.v, .int .i64 q.tr, .int .i64 q.sp, .bool q.ag, .int .i64 q.re] 27 ∧ BoxAt W w4.heap.size #[.int .i64 y.at_, .int .i64 y.v, .int .i64 y.r, .int .i64 y.t, .bool y.seen.s, .int .i64 y.seen.n, .bool y.seen.f, .int .i64 y.seen.v, .int .i64 y.tr, .int .i64 y.sp, .bool y.ag, .int .i64 y.re] 27) ⟨hB.alloc hB.size _, b3.alloc _, b5.alloc _, b7.alloc _, BoxAt.new _ _ _⟩ ?_
    clear hB b3 b5 b7
    generalize w4.heap.size = g8 at *
    rintro W4 ⟨hB, b3, b5, b7, b8⟩
    refine (drawIsPutting_any a0 len cap _ ((hc.below hB).le hB.size)).mono ?_
    rintro e w5 ⟨p, rfl, hb⟩
    replace b3 := b3.below hb b3.lt
    replace b5 := b5.below hb b5.lt
    replace b7 := b7.below hb b7.lt
    replace b8 := b8.below hb b8.lt
    replace hB := bstep hB hB.size hb
    clear hb
    unfold hdV
    have lb3 := b3.lt
    have lb5 := b5.lt
    have lb7 := b7.lt
    have lb8 := b8.lt
    have kb3 := b3.cell
    have kb5 := b5.cell
    have kb7 := b7.cell
    have kb8 := b8.cell
    go_wp2_with fail
    clear kb3 kb5 kb7 kb8
    refine calls_abs (fun W => Below w.heap.size w W ∧ BoxAt W g3 #[.int .i64 h.at_, .int .i64 h.v, .int .i64 h.r, .int .i64 h.t, .bool h.seen.s, .int .i64 h.seen.n, .bool h.seen.f, .int .i64 h.seen.v, .int .i64 h.tr, .int .i64 h.sp, .bool h.ag, .int .i64 h.re] 27 ∧ BoxAt W g5 #[.int .i64 x.at_, .int .i64 x.v, .int .i64 x.r, .int .i64 x.t, .bool x.seen.s, .int .i64 x.seen.n, .bool x.seen.f, .int .i64 x.seen.v, .int .i64 x.tr, .int .i64 x.sp, .bool x.ag, .int .i64 x.re] 27 ∧ BoxAt W g7 #[.int .i64 q.at_, .int .i64 q.v, .int .i64 q.r, .int .i64 q.t, .bool q.seen.s, .int .i64 q.seen.n, .bool q.seen.f, .int .i64 q.seen.v, .int .i64 q.tr, .int .i64 q.sp, .bool q.ag, .int .i64 q.re] 27 ∧ BoxAt W g8 #[.int .i64 y.at_, .int .i64 y.v, .int .i64 y.r, .int .i64 y.t, .bool y.seen.s, .int .i64 y.seen.n, .bool y.seen.f, .int .i64 y.seen.v, .int .i64 y.tr, .int .i64 y.sp, .bool y.ag, .int .i64 y.re] 27 ∧ BoxAt W w5.heap.size #[.int .i64 p.at_, .int .i64 p.v, .int .i64 p.r, .int .i64 p.t, .bool p.seen.s, .int .i64 p.seen.n, .bool p.seen.f, .int .i64 p.seen.v, .int .i64 p.tr, .int .i64 p.sp, .bool p.ag, .int .i64 p.re] 27) ⟨hB.alloc hB.size _, b3.alloc _, b5.alloc _, b7.alloc _, b8.alloc _, BoxAt.new _ _ _⟩ ?_
    clear hB b3 b5 b7 b8
    generalize w5.heap.size = g10 at *
    rintro W5 ⟨hB, b3, b5, b7, b8, b10⟩
    refine (HPS _).mono ?_
    rintro e w6 ⟨rfl, hb⟩
    replace b3 := b3.below hb b3.lt
    replace b5 := b5.below hb b5.lt
    replace b7 := b7.below hb b7.lt
    replace b8 := b8.below hb b8.lt
    replace b10 := b10.below hb b10.lt
    replace hB := bstep hB hB.size hb
    clear hb
    unfold hdV
    have lb3 := b3.lt
    have lb5 := b5.lt
    have lb7 := b7.lt
    have lb8 := b8.lt
    have lb10 := b10.lt
    go_upto_region 9 with fail
    refine wp_abs (fun W => Below w.heap.size w W ∧ BoxAt W g3 #[.int .i64 h.at_, .int .i64 h.v, .int .i64 h.r, .int .i64 h.t, .bool h.seen.s, .int .i64 h.seen.n, .bool h.seen.f, .int .i64 h.seen.v, .int .i64 h.tr, .int .i64 h.sp, .bool h.ag, .int .i64 h.re] 27 ∧ BoxAt W g5 #[.int .i64 x.at_, .int .i64 x.v, .int .i64 x.r, .int .i64 x.t, .bool x.seen.s, .int .i64 x.seen.n, .bool x.seen.f, .int .i64 x.seen.v, .int .i64 x.tr, .int .i64 x.sp, .bool x.ag, .int .i64 x.re] 27 ∧ BoxAt W g7 #[.int .i64 q.at_, .int .i64 q.v, .int .i64 q.r, .int .i64 q.t, .bool q.seen.s, .int .i64 q.seen.n, .bool q.seen.f, .int .i64 q.seen.v, .int .i64 q.tr, .int .i64 q.sp, .bool q.ag, .int .i64 q.re] 27 ∧ BoxAt W g8 #[.int .i64 y.at_, .int .i64 y.v, .int .i64 y.r, .int .i64 y.t, .bool y.seen.s, .int .i64 y.seen.n, .bool y.seen.f, .int .i64 y.seen.v, .int .i64 y.tr, .int .i64 y.sp, .bool y.ag, .int .i64 y.re] 27 ∧ BoxAt W g10 #[.int .i64 p.at_, .int .i64 p.v, .int .i64 p.r, .int .i64 p.t, .bool p.seen.s, .int .i64 p.seen.n, .bool p.seen.f, .int .i64 p.seen.v, .int .i64 p.tr, .int .i64 p.sp, .bool p.ag, .int .i64 p.re] 27 ∧ BoxAt W w6.heap.size #[.int .i64 x.at_, .int .i64 x.v, .int .i64 x.r, .int .i64 x.t, .bool x.seen.s, .int .i64 x.seen.n, .bool x.seen.f, .int .i64 x.seen.v, .int .i64 x.tr, .int .i64 x.sp, .bool x.ag, .int .i64 x.re] 27) ⟨hB.alloc hB.size _, b3.alloc _, b5.alloc _, b7.alloc _, b8.alloc _, b10.alloc _, BoxAt.new _ _ _⟩ ?_
    clear hB b3 b5 b7 b8 b10
    generalize w6.heap.size = g11 at *
    rintro W6 ⟨hB, b3, b5, b7, b8, b10, b11⟩
    go_cut [74] (fun u74 W' => Below w.heap.size w W' ∧ BoxAt W' g3 #[.int .i64 h.at_, .int .i64 h.v, .int .i64 h.r, .int .i64 h.t, .bool h.seen.s, .int .i64 h.seen.n, .bool h.seen.f, .int .i64 h.seen.v, .int .i64 h.tr, .int .i64 h.sp, .bool h.ag, .int .i64 h.re] 27 ∧ BoxAt W' g5 #[.int .i64 x.at_, .int .i64 x.v, .int .i64 x.r, .int .i64 x.t, .bool x.seen.s, .int .i64 x.seen.n, .bool x.seen.f, .int .i64 x.seen.v, .int .i64 x.tr, .int .i64 x.sp, .bool x.ag, .int .i64 x.re] 27 ∧ BoxAt W' g7 #[.int .i64 q.at_, .int .i64 q.v, .int .i64 q.r, .int .i64 q.t, .bool q.seen.s, .int .i64 q.seen.n, .bool q.seen.f, .int .i64 q.seen.v, .int .i64 q.tr, .int .i64 q.sp, .bool q.ag, .int .i64 q.re] 27 ∧ BoxAt W' g8 #[.int .i64 y.at_, .int .i64 y.v, .int .i64 y.r, .int .i64 y.t, .bool y.seen.s, .int .i64 y.seen.n, .bool y.seen.f, .int .i64 y.seen.v, .int .i64 y.tr, .int .i64 y.sp, .bool y.ag, .int .i64 y.re] 27 ∧ BoxAt W' g10 #[.int .i64 p.at_, .int .i64 p.v, .int .i64 p.r, .int .i64 p.t, .bool p.seen.s, .int .i64 p.seen.n, .bool p.seen.f, .int .i64 p.seen.v, .int .i64 p.tr, .int .i64 p.sp, .bool p.ag, .int .i64 p.re] 27 ∧ BoxAt W' g11 #[.int .i64 x.at_, .int .i64 x.v, .int .i64 x.r, .int .i64 x.t, .bool x.seen.s, .int .i64 x.seen.n, .bool x.seen.f, .int .i64 x.seen.v, .int .i64 x.tr, .int .i64 x.sp, .bool x.ag, .int .i64 x.re] 27 ∧ u74 = .bool false)
    case first =>
      refine wp_region2v (fun w w' => Below w.heap.size w w') (fun _ _ h => h.size) (fun _ => Below.refl _ _) (fun L W' => Below w.heap.size w W' ∧ BoxAt W' g3 #[.int .i64 h.at_, .int .i64 h.v, .int .i64 h.r, .int .i64 h.t, .bool h.seen.s, .int .i64 h.seen.n, .bool h.seen.f, .int .i64 h.seen.v, .int .i64 h.tr, .int .i64 h.sp, .bool h.ag, .int .i64 h.re] 27 ∧ BoxAt W' g5 #[.int .i64 x.at_, .int .i64 x.v, .int .i64 x.r, .int .i64 x.t, .bool x.seen.s, .int .i64 x.seen.n, .bool x.seen.f, .int .i64 x.seen.v, .int .i64 x.tr, .int .i64 x.sp, .bool x.ag, .int .i64 x.re] 27 ∧ BoxAt W' g7 #[.int .i64 q.at_, .int .i64 q.v, .int .i64 q.r, .int .i64 q.t, .bool q.seen.s, .int .i64 q.seen.n, .bool q.seen.f, .int .i64 q.seen.v, .int .i64 q.tr, .int .i64 q.sp, .bool q.ag, .int .i64 q.re] 27 ∧ BoxAt W' g8 #[.int .i64 y.at_, .int .i64 y.v, .int .i64 y.r, .int .i64 y.t, .bool y.seen.s, .int .i64 y.seen.n, .bool y.seen.f, .int .i64 y.seen.v, .int .i64 y.tr, .int .i64 y.sp, .bool y.ag, .int .i64 y.re] 27 ∧ BoxAt W' g10 #[.int .i64 p.at_, .int .i64 p.v, .int .i64 p.r, .int .i64 p.t, .bool p.seen.s, .int .i64 p.seen.n, .bool p.seen.f, .int .i64 p.seen.v, .int .i64 p.tr, .int .i64 p.sp, .bool p.ag, .int .i64 p.re] 27 ∧ BoxAt W' g11 #[.int .i64 x.at_, .int .i64 x.v, .int .i64 x.r, .int .i64 x.t, .bool x.seen.s, .int .i64 x.seen.n, .bool x.seen.f, .int .i64 x.seen.v, .int .i64 x.tr, .int .i64 x.sp, .bool x.ag, .int .i64 x.re] 27) (fhRV h x q y p v is fine g3 g5 g7 g8 g10 g11) (fun _ => 0) [] (by kernel_rfl) (by kernel_rfl) ?_ ?_ ?_
        (.still rfl ?a0 <| .still rfl ?a1 <| .still rfl ?a2 <| .still rfl ?a3 <| .still rfl ?a4 <| .still rfl ?a5 <| .still rfl ?a6 <| .still rfl ?a7 <| .still rfl ?a8 <| .still rfl ?a9 <| .grow rfl ?a10 <| .still rfl ?a11 <| .grow rfl ?a12 <| .still rfl ?a13 <| .still rfl ?a14 <| .still rfl ?a15 <| .still rfl ?a16 <| .grow rfl ?a17 <| .still rfl ?a18 <| .grow rfl ?a19 <| .still rfl ?a20 <| .still rfl ?a21 <| .still rfl ?a22 <| .grow rfl ?a23 <| .grow rfl ?a24 <| .still rfl ?a25 <| .still rfl ?a26 <| .still rfl ?a27 <| .grow rfl ?a28 <| .grow rfl ?a29 <| .still rfl ?a30 <| .still rfl ?a31 <| .nil) ?_ ?_
      · exact trivial
      · exact trivial
      · exact ⟨hB.drew, b3, b5, b7, b8, b10, b11⟩
      case a0 =>
        go_light
        intro L σ W' hcl hL hC hw
        have kb11 := hC.2.2.2.2.2.2.cell
        clear hw hcl hL hC
        refine OpGoes.step fun K hK => ?_
        unfold OpGoes
        go_simp
        exact hK _ _ ⟨rfl, rfl⟩
      case a1 =>
        go_light
        intro L σ W' hcl hL hC hw
        have kb5 := hC.2.2.1.cell
        clear hw hcl hL hC
        refine OpGoes.step fun K hK => ?_
        unfold OpGoes
        go_simp
        exact hK _ _ ⟨rfl, rfl⟩
      case a2 | a3 | a4 | a5 | a6 | a7 | a8 | a13 | a14 | a15 | a20 | a21 | a22 | a25 | a26 | a27 | a30 | a31 =>
        go_light
        intro L σ W' hcl hL hC hw
        try have e0 := wT hw 0 rfl
        try have e1 := wT hw 1 rfl
        try have e2 := wT hw 2 rfl
        try have e3 := wT hw 3 rfl
        try have e4 := wT hw 4 rfl
        try have e5 := wT hw 5 rfl
        try have e6 := wT hw 6 rfl
        try have e7 := wT hw 7 rfl
        try have e8 := wT hw 8 rfl
        try have e10 := wT hw 10 rfl
        try have e12 := wT hw 12 rfl
        try have e13 := wT hw 13 rfl
        try have e14 := wT hw 14 rfl
        try have e15 := wT hw 15 rfl
        try have e17 := wT hw 17 rfl
        try have e19 := wT hw 19 rfl
        try have e20 := wT hw 20 rfl
        try have e21 := wT hw 21 rfl
        try have e22 := wT hw 22 rfl
        try have e23 := wT hw 23 rfl
        try have e24 := wT hw 24 rfl
        try have e25 := wT hw 25 rfl
        try have e26 := wT hw 26 rfl
        try have e27 := wT hw 27 rfl
        try have e29 := wT hw 29 rfl
        try have e30 := wT hw 30 rfl
        clear hw hcl hL hC
        refine OpGoes.step fun K hK => ?_
        unfold OpGoes
        go_simp
        exact hK _ _ ⟨rfl, rfl⟩
      case a9 | a11 | a16 | a18 =>
        go_light
        intro L σ W' hcl hL hC hw
        try have e8 := wT hw 8 rfl
        try have e15 := wT hw 15 rfl
        have kb10 := hC.2.2.2.2.2.1.cell
        clear hw hcl hL hC
        refine OpGoes.step fun K hK => ?_
        unfold OpGoes
        go_simp
        exact hK _ _ ⟨rfl, rfl⟩
      case a10 =>
        go_light
        intro L σ W' hcl hL hC hw
        have e8 := wV hw 8 rfl
        have e9 := wV hw 9 rfl
        clear hw
        have HC := Lib.hid hC
        clear hC
        clear hcl hL
        refine OpGoes.step fun K hK => ?_
        unfold OpGoes
        go_simp
        obtain ⟨hB, b3, b5, b7, b8, b10, b11⟩ := HC.out
        refine (ihandOk_any p _).mono ?_
        rintro e w1 ⟨rfl, hb1⟩
        exact ⟨_, rfl, hK _ _ ⟨⟨bstep hB hB.size hb1, b3.below hb1 b3.lt, b5.below hb1 b5.lt, b7.below hb1 b7.lt, b8.below hb1 b8.lt, b10.below hb1 b10.lt, b11.below hb1 b11.lt⟩, rfl, hb1⟩⟩
      case a12 =>
        go_light
        intro L σ W' hcl hL hC hw
        have e8 := wV hw 8 rfl
        have e11 := wV hw 11 rfl
        clear hw
        have HC := Lib.hid hC
        clear hC
        clear hcl hL
        refine OpGoes.step fun K hK => ?_
        unfold OpGoes
        go_simp
        obtain ⟨hB, b3, b5, b7, b8, b10, b11⟩ := HC.out
        refine (shandOk_any p _).mono ?_
        rintro e w1 ⟨rfl, hb1⟩
        exact ⟨_, rfl, hK _ _ ⟨⟨bstep hB hB.size hb1, b3.below hb1 b3.lt, b5.below hb1 b5.lt, b7.below hb1 b7.lt, b8.below hb1 b8.lt, b10.below hb1 b10.lt, b11.below hb1 b11.lt⟩, rfl, hb1⟩⟩
      case a17 =>
        go_light
        intro L σ W' hcl hL hC hw
        have e15 := wV hw 15 rfl
        have e16 := wV hw 16 rfl
        clear hw
        have HC := Lib.hid hC
        clear hC
        clear hcl hL
        refine OpGoes.step fun K hK => ?_
        unfold OpGoes
        go_simp
        obtain ⟨hB, b3, b5, b7, b8, b10, b11⟩ := HC.out
        refine (iisPutting_any p _).mono ?_
        rintro e w1 ⟨rfl, hb1⟩
        exact ⟨_, rfl, hK _ _ ⟨⟨bstep hB hB.size hb1, b3.below hb1 b3.lt, b5.below hb1 b5.lt, b7.below hb1 b7.lt, b8.below hb1 b8.lt, b10.below hb1 b10.lt, b11.below hb1 b11.lt⟩, rfl, hb1⟩⟩
      case a19 =>
        go_light
        intro L σ W' hcl hL hC hw
        have e15 := wV hw 15 rfl
        have e18 := wV hw 18 rfl
        clear hw
        have HC := Lib.hid hC
        clear hC
        clear hcl hL
        refine OpGoes.step fun K hK => ?_
        unfold OpGoes
        go_simp
        obtain ⟨hB, b3, b5, b7, b8, b10, b11⟩ := HC.out
        refine (sisPutting_any p _).mono ?_
        rintro e w1 ⟨rfl, hb1⟩
        exact ⟨_, rfl, hK _ _ ⟨⟨bstep hB hB.size hb1, b3.below hb1 b3.lt, b5.below hb1 b5.lt, b7.below hb1 b7.lt, b8.below hb1 b8.lt, b10.below hb1 b10.lt, b11.below hb1 b11.lt⟩, rfl, hb1⟩⟩
      case a23 =>
        go_light
        intro L σ W' hcl hL hC hw
        have e22 := wV hw 22 rfl
        clear hw
        have HC := Lib.hid hC
        clear hC
        clear hcl hL
        refine OpGoes.step fun K hK => ?_
        unfold OpGoes
        go_simp
        obtain ⟨hB, b3, b5, b7, b8, b10, b11⟩ := HC.out
        refine (iresting_any _).mono ?_
        rintro e w1 ⟨rfl, hb1⟩
        exact ⟨_, rfl, hK _ _ ⟨⟨bstep hB hB.size hb1, b3.below hb1 b3.lt, b5.below hb1 b5.lt, b7.below hb1 b7.lt, b8.below hb1 b8.lt, b10.below hb1 b10.lt, b11.below hb1 b11.lt⟩, rfl, hb1⟩⟩
      case a24 =>
        go_light
        intro L σ W' hcl hL hC hw
        have e22 := wV hw 22 rfl
        clear hw
        have HC := Lib.hid hC
        clear hC
        clear hcl hL
        refine OpGoes.step fun K hK => ?_
        unfold OpGoes
        go_simp
        obtain ⟨hB, b3, b5, b7, b8, b10, b11⟩ := HC.out
        refine (sresting_any _).mono ?_
        rintro e w1 ⟨rfl, hb1⟩
        exact ⟨_, rfl, hK _ _ ⟨⟨bstep hB hB.size hb1, b3.below hb1 b3.lt, b5.below hb1 b5.lt, b7.below hb1 b7.lt, b8.below hb1 b8.lt, b10.below hb1 b10.lt, b11.below hb1 b11.lt⟩, rfl, hb1⟩⟩
      case a28 =>
        go_light
        intro L σ W' hcl hL hC hw
        have e27 := wV hw 27 rfl
        clear hw
        have HC := Lib.hid hC
        clear hC
        clear hcl hL
        refine OpGoes.step fun K hK => ?_
        unfold OpGoes
        go_simp
        obtain ⟨hB, b3, b5, b7, b8, b10, b11⟩ := HC.out
        refine (iresting_any _).mono ?_
        rintro e w1 ⟨rfl, hb1⟩
        exact ⟨_, rfl, hK _ _ ⟨⟨bstep hB hB.size hb1, b3.below hb1 b3.lt, b5.below hb1 b5.lt, b7.below hb1 b7.lt, b8.below hb1 b8.lt, b10.below hb1 b10.lt, b11.below hb1 b11.lt⟩, rfl, hb1⟩⟩
      case a29 =>
        go_light
        intro L σ W' hcl hL hC hw
        have e27 := wV hw 27 rfl
        have e28 := wV hw 28 rfl
        clear hw
        have HC := Lib.hid hC
        clear hC
        clear hcl hL
        refine OpGoes.step fun K hK => ?_
        unfold OpGoes
        go_simp
        obtain ⟨hB, b3, b5, b7, b8, b10, b11⟩ := HC.out
        refine (ihandOk_rest _).mono ?_
        rintro e w1 ⟨rfl, hb1⟩
        exact ⟨_, rfl, hK _ _ ⟨⟨bstep hB hB.size hb1, b3.below hb1 b3.lt, b5.below hb1 b5.lt, b7.below hb1 b7.lt, b8.below hb1 b8.lt, b10.below hb1 b10.lt, b11.below hb1 b11.lt⟩, rfl, hb1⟩⟩
      · intro L L' W' hLL hC
        obtain ⟨hB, b3, b5, b7, b8, b10, b11⟩ := hC
        exact ⟨hB, b3, b5, b7, b8, b10, b11⟩
      · intro σ L W' hall hC hRR
        obtain ⟨hB, b3, b5, b7, b8, b10, b11⟩ := hC
        have e31 := dV hRR 31 rfl
        clear hRR
        simp only [lexAll]
        go_simp
        go_step
        go_meet
        exact ⟨hB, b3, b5, b7, b8, b10, b11, rfl⟩
    case rest =>
      clear hB b3 b5 b7 b8 b10 b11
      obtain ⟨hB, b3, b5, b7, b8, b10, b11, rfl⟩ := hcut
      have lb3 := b3.lt
      have lb5 := b5.lt
      have lb7 := b7.lt
      have lb8 := b8.lt
      have lb10 := b10.lt
      have lb11 := b11.lt
      have kb3 := b3.cell
      have kb5 := b5.cell
      have kb7 := b7.cell
      have kb8 := b8.cell
      have kb10 := b10.cell
      have kb11 := b11.cell
      go_wp2_with fail
      clear kb3 kb5 kb7 kb8 kb10 kb11
      refine (HTS _).mono ?_
      rintro e w7 ⟨rfl, hb⟩
      replace b3 := b3.below hb b3.lt
      replace b5 := b5.below hb b5.lt
      replace b7 := b7.below hb b7.lt
      replace b8 := b8.below hb b8.lt
      replace b10 := b10.below hb b10.lt
      replace b11 := b11.below hb b11.lt
      replace hB := bstep hB hB.size hb
      clear hb
      unfold hdV
      have lb3 := b3.lt
      have lb5 := b5.lt
      have lb7 := b7.lt
      have lb8 := b8.lt
      have lb10 := b10.lt
      have lb11 := b11.lt
      go_upto_region 12 with fail
      refine wp_abs (fun W => Below w.heap.size w W ∧ BoxAt W g3 #[.int .i64 h.at_, .int .i64 h.v, .int .i64 h.r, .int .i64 h.t, .bool h.seen.s, .int .i64 h.seen.n, .bool h.seen.f, .int .i64 h.seen.v, .int .i64 h.tr, .int .i64 h.sp, .bool h.ag, .int .i64 h.re] 27 ∧ BoxAt W g5 #[.int .i64 x.at_, .int .i64 x.v, .int .i64 x.r, .int .i64 x.t, .bool x.seen.s, .int .i64 x.seen.n, .bool x.seen.f, .int .i64 x.seen.v, .int .i64 x.tr, .int .i64 x.sp, .bool x.ag, .int .i64 x.re] 27 ∧ BoxAt W g7 #[.int .i64 q.at_, .int .i64 q.v, .int .i64 q.r, .int .i64 q.t, .bool q.seen.s, .int .i64 q.seen.n, .bool q.seen.f, .int .i64 q.seen.v, .int .i64 q.tr, .int .i64 q.sp, .bool q.ag, .int .i64 q.re] 27 ∧ BoxAt W g8 #[.int .i64 y.at_, .int .i64 y.v, .int .i64 y.r, .int .i64 y.t, .bool y.seen.s, .int .i64 y.seen.n, .bool y.seen.f, .int .i64 y.seen.v, .int .i64 y.tr, .int .i64 y.sp, .bool y.ag, .int .i64 y.re] 27 ∧ BoxAt W g10 #[.int .i64 p.at_, .int .i64 p.v, .int .i64 p.r, .int .i64 p.t, .bool p.seen.s, .int .i64 p.seen.n, .bool p.seen.f, .int .i64 p.seen.v, .int .i64 p.tr, .int .i64 p.sp, .bool p.ag, .int .i64 p.re] 27 ∧ BoxAt W g11 #[.int .i64 x.at_, .int .i64 x.v, .int .i64 x.r, .int .i64 x.t, .bool x.seen.s, .int .i64 x.seen.n, .bool x.seen.f, .int .i64 x.seen.v, .int .i64 x.tr, .int .i64 x.sp, .bool x.ag, .int .i64 x.re] 27 ∧ BoxAt W w7.heap.size #[.int .i64 y.at_, .int .i64 y.v, .int .i64 y.r, .int .i64 y.t, .bool y.seen.s, .int .i64 y.seen.n, .bool y.seen.f, .int .i64 y.seen.v, .int .i64 y.tr, .int .i64 y.sp, .bool y.ag, .int .i64 y.re] 27) ⟨hB.alloc hB.size _, b3.alloc _, b5.alloc _, b7.alloc _, b8.alloc _, b10.alloc _, b11.alloc _, BoxAt.new _ _ _⟩ ?_
      clear hB b3 b5 b7 b8 b10 b11
      generalize w7.heap.size = g13 at *
      rintro W7 ⟨hB, b3, b5, b7, b8, b10, b11, b13⟩
      go_cut [106] (fun u106 W' => Below w.heap.size w W' ∧ BoxAt W' g3 #[.int .i64 h.at_, .int .i64 h.v, .int .i64 h.r, .int .i64 h.t, .bool h.seen.s, .int .i64 h.seen.n, .bool h.seen.f, .int .i64 h.seen.v, .int .i64 h.tr, .int .i64 h.sp, .bool h.ag, .int .i64 h.re] 27 ∧ BoxAt W' g5 #[.int .i64 x.at_, .int .i64 x.v, .int .i64 x.r, .int .i64 x.t, .bool x.seen.s, .int .i64 x.seen.n, .bool x.seen.f, .int .i64 x.seen.v, .int .i64 x.tr, .int .i64 x.sp, .bool x.ag, .int .i64 x.re] 27 ∧ BoxAt W' g7 #[.int .i64 q.at_, .int .i64 q.v, .int .i64 q.r, .int .i64 q.t, .bool q.seen.s, .int .i64 q.seen.n, .bool q.seen.f, .int .i64 q.seen.v, .int .i64 q.tr, .int .i64 q.sp, .bool q.ag, .int .i64 q.re] 27 ∧ BoxAt W' g8 #[.int .i64 y.at_, .int .i64 y.v, .int .i64 y.r, .int .i64 y.t, .bool y.seen.s, .int .i64 y.seen.n, .bool y.seen.f, .int .i64 y.seen.v, .int .i64 y.tr, .int .i64 y.sp, .bool y.ag, .int .i64 y.re] 27 ∧ BoxAt W' g10 #[.int .i64 p.at_, .int .i64 p.v, .int .i64 p.r, .int .i64 p.t, .bool p.seen.s, .int .i64 p.seen.n, .bool p.seen.f, .int .i64 p.seen.v, .int .i64 p.tr, .int .i64 p.sp, .bool p.ag, .int .i64 p.re] 27 ∧ BoxAt W' g11 #[.int .i64 x.at_, .int .i64 x.v, .int .i64 x.r, .int .i64 x.t, .bool x.seen.s, .int .i64 x.seen.n, .bool x.seen.f, .int .i64 x.seen.v, .int .i64 x.tr, .int .i64 x.sp, .bool x.ag, .int .i64 x.re] 27 ∧ BoxAt W' g13 #[.int .i64 y.at_, .int .i64 y.v, .int .i64 y.r, .int .i64 y.t, .bool y.seen.s, .int .i64 y.seen.n, .bool y.seen.f, .int .i64 y.seen.v, .int .i64 y.tr, .int .i64 y.sp, .bool y.ag, .int .i64 y.re] 27 ∧ u106 = .bool false)
      case first =>
        cases fine
        · have kb3 := b3.cell
          have kb5 := b5.cell
          have kb7 := b7.cell
          have kb8 := b8.cell
          have kb10 := b10.cell
          have kb11 := b11.cell
          have kb13 := b13.cell
          go_wp2
          go_meet
          exact ⟨hB, b3, b5, b7, b8, b10, b11, b13, rfl⟩
        · obtain ⟨f1, f2, f3⟩ := toTake_yes HT.out
          have f2' : (y.at_ != 13) = false := by simp [f2]
          have f3' : (y.sp != q.sp) = false := by simp [f3]
          clear f2 f3
          have kb3 := b3.cell
          have kb5 := b5.cell
          have kb7 := b7.cell
          have kb8 := b8.cell
          have kb10 := b10.cell
          have kb11 := b11.cell
          have kb13 := b13.cell
          go_wp2_with fail
          clear kb3 kb5 kb7 kb8 kb10 kb11 kb13
          refine (iisPutting_is y false _ f1).mono ?_
          rintro e w8 ⟨rfl, hb⟩
          replace b3 := b3.below hb b3.lt
          replace b5 := b5.below hb b5.lt
          replace b7 := b7.below hb b7.lt
          replace b8 := b8.below hb b8.lt
          replace b10 := b10.below hb b10.lt
          replace b11 := b11.below hb b11.lt
          replace b13 := b13.below hb b13.lt
          replace hB := bstep hB hB.size hb
          clear hb
          have kb3 := b3.cell
          have kb5 := b5.cell
          have kb7 := b7.cell
          have kb8 := b8.cell
          have kb10 := b10.cell
          have kb11 := b11.cell
          have kb13 := b13.cell
          go_wp2
          go_meet
          exact ⟨hB, b3, b5, b7, b8, b10, b11, b13, rfl⟩
      case rest =>
        clear hB b3 b5 b7 b8 b10 b11 b13
        obtain ⟨hB, b3, b5, b7, b8, b10, b11, b13, rfl⟩ := hcut
        cases is
        · have kb3 := b3.cell
          have kb5 := b5.cell
          have kb7 := b7.cell
          have kb8 := b8.cell
          have kb10 := b10.cell
          have kb11 := b11.cell
          have kb13 := b13.cell
          go_wp2_with fail
          clear kb3 kb5 kb7 kb8 kb10 kb11 kb13
          refine (shandOk_any h _).mono ?_
          rintro e w9 ⟨rfl, hb⟩
          replace b3 := b3.below hb b3.lt
          replace b5 := b5.below hb b5.lt
          replace b7 := b7.below hb b7.lt
          replace b8 := b8.below hb b8.lt
          replace b10 := b10.below hb b10.lt
          replace b11 := b11.below hb b11.lt
          replace b13 := b13.below hb b13.lt
          replace hB := bstep hB hB.size hb
          clear hb
          cases hho : h.ok
          · obtain rfl : x = Hd.zero := toPut_zero HP.out hho
            simp only [Hd.zero] at b5
            have kb3 := b3.cell
            have kb5 := b5.cell
            have kb7 := b7.cell
            have kb8 := b8.cell
            have kb10 := b10.cell
            have kb11 := b11.cell
            have kb13 := b13.cell
            go_wp2
            go_ret
            exact .mk rfl hB
          · obtain rfl : x = h := toPut_same HP.out hho
            have kb3 := b3.cell
            have kb5 := b5.cell
            have kb7 := b7.cell
            have kb8 := b8.cell
            have kb10 := b10.cell
            have kb11 := b11.cell
            have kb13 := b13.cell
            go_wp2
            go_ret
            exact .mk rfl hB
        · obtain ⟨rfl, hxo, hxp⟩ := toPut_yes HP.out
          have HXO := Lib.hid hxo
          have HXP := Lib.hid hxp
          clear hxo hxp
          simp only [Hd.zero] at b5
          have kb3 := b3.cell
          have kb5 := b5.cell
          have kb7 := b7.cell
          have kb8 := b8.cell
          have kb10 := b10.cell
          have kb11 := b11.cell
          have kb13 := b13.cell
          go_wp2_with fail
          clear kb3 kb5 kb7 kb8 kb10 kb11 kb13
          refine (iisPutting_is { Hd.zero with at_ := 1, v := v, sp := h.sp } true _ HXP.out).mono ?_
          rintro e w9 ⟨rfl, hb⟩
          replace b3 := b3.below hb b3.lt
          replace b5 := b5.below hb b5.lt
          replace b7 := b7.below hb b7.lt
          replace b8 := b8.below hb b8.lt
          replace b10 := b10.below hb b10.lt
          replace b11 := b11.below hb b11.lt
          replace b13 := b13.below hb b13.lt
          replace hB := bstep hB hB.size hb
          clear hb
          have kb3 := b3.cell
          have kb5 := b5.cell
          have kb7 := b7.cell
          have kb8 := b8.cell
          have kb10 := b10.cell
          have kb11 := b11.cell
          have kb13 := b13.cell
          go_wp2_with fail
          clear kb3 kb5 kb7 kb8 kb10 kb11 kb13
          refine (ihandOk_is { Hd.zero with at_ := 1, v := v, sp := h.sp } true _ HXO.out).mono ?_
          rintro e w10 ⟨rfl, hb⟩
          replace b3 := b3.below hb b3.lt
          replace b5 := b5.below hb b5.lt
          replace b7 := b7.below hb b7.lt
          replace b8 := b8.below hb b8.lt
          replace b10 := b10.below hb b10.lt
          replace b11 := b11.below hb b11.lt
          replace b13 := b13.below hb b13.lt
          replace hB := bstep hB hB.size hb
          clear hb
          have kb3 := b3.cell
          have kb5 := b5.cell
          have kb7 := b7.cell
          have kb8 := b8.cell
          have kb10 := b10.cell
          have kb11 := b11.cell
          have kb13 := b13.cell
          go_wp2
          go_ret
          exact .mk rfl hB

end Go.Proofs.Ytomfaabifpndbaa

namespace Go.Proofs.Ytomfaabifpndbaa
set_option linter.unusedSimpArgs false
set_option linter.unusedVariables false
open Go.RowKit Go.ChangeShapes Go.WideShapes Go.ChangeAt Go.Joins
set_option linter.unusedVariables false

set_option maxRecDepth 100000 in
/-- The bytes of a draw that came in. -/
theorem open_code {H : Type} {enc : TypeId × Value → H} {W : World} {base : Nat} {v : Value} {d : DataW H} {p : List MemPlace}
    (hv : Value.okWide Try.prog W .any base 22 v) (h : DataW.Trod enc Try.prog W 0 (fun _ => true) true 22 v d p) :
    ∃ (a0 : Option Addr) (len cap : Nat), v = .slice a0 len cap ∧ CodeOk W.heap.size W a0 len := by
  obtain ⟨a0, len, cap, rfl⟩ := okWide_slice Try.underlying22 hv
  refine ⟨a0, len, cap, rfl, ?_⟩
  obtain ⟨fuel, hf⟩ := h
  rcases open_ints Try.underlying22 Try.underlying5 (by kernel_rfl) hf with ⟨hcs, _⟩ | ⟨x, l, c, zs, hcs, _, hl, hm, hz, _, hcell, hwz⟩
  · simp [Value.cells] at hcs
    obtain ⟨rfl, rfl, rfl⟩ := hcs
    exact ⟨Nat.zero_le _, fun h => absurd h (by omega)⟩
  · simp [Value.cells] at hcs
    obtain ⟨rfl, rfl, rfl⟩ := hcs
    have hz' : zs.length = cap := by simpa using hz
    refine ⟨by omega, fun hp => ?_⟩
    obtain ⟨b, off, spot⟩ := x
    have h0 := hcell 0 (by omega)
    have hspot : spot = none := by simpa [Addr.add] using World.cell?_spot h0
    subst hspot
    have hblk := World.block_lt_of_cell? W _ h0
    refine ⟨b, off, rfl, by simpa [Addr.add] using hblk, by simpa [Addr.add] using hblk, fun i hi => ?_⟩
    have hi' := hcell i (by omega)
    have hmem : zs.getD i 0 ∈ zs := by
      have : i < zs.length := by omega
      simp [List.getD_eq_getElem?_getD, this]
    have hw := hwz _ hmem
    have hb := Go.bounds_u8 hw
    have ea : (⟨b, off, none⟩ : Addr).add i = ⟨b, off + i, none⟩ := by
      by_cases e : i = 0
      · subst e; simp [Addr.add]
      · simp [Addr.add, e]
    rw [ea] at hi'
    exact ⟨zs.getD i 0, hb.1, hb.2, hi'⟩

set_option maxRecDepth 100000 in
theorem fnHands_lifted (os : Os) (started : os.Started) (H : Type) (enc : TypeId × Value → H) :
    ReturnsInHanded {} Try.checked os 3 .any (Rows.fnHandsSpec.pre6 enc Try.prog Try.f3 Rows.fnHandsRow.domain false) (Rows.fnHandsSpec.post enc Try.prog Try.f3 false true false false) := by
  refine law_lifted (C := Try.checked) (fn := Try.f3) own started (by kernel_rfl) Try.func3 laidOut Try.underlying4 rfl rfl (by kernel_rfl) (fun ds h => ?_)
    (ChangeSpec.witness6 (enc := enc) (C := Try.checked) false ⟨#[], #[.slice none 0 0], []⟩ 8 (by kernel_rfl) (by kernel_rfl) (by kernel_rfl) (by kernel_rfl)) ?_
  · match ds, h with | [_], _ => rfl
  intro W base args ds p hval0 hA0
  have hval : ∀ (j : Nat) t v, Try.f3.params[j]? = some t → args[j]? = some v → Value.okWide Try.prog W .any base t v := hval0
  have hA : DataW.TrodAll enc Try.prog W 0 (fun _ => true) true Try.f3.params.toList args.toList ds p := hA0
  rw [Try.params3] at hA hval
  obtain ⟨v0, vs0, d0, ds0, p0, q0, hargs, rfl, rfl, h0, r0⟩ := trodAll_cons hA
  obtain ⟨rfl, rfl, rfl⟩ := trodAll_nil r0
  obtain rfl : args = #[v0] := by cases args; simp_all
  obtain ⟨a0, len, cap, rfl, hcode⟩ := open_code (hval 0 22 v0 rfl rfl) h0
  exact fnHands_any a0 len cap W hcode

theorem fnHands_holds : Rows.FnHandsSaid :=
  OpenClaim.holds_of_wide 3 Try.f3 rfl rfl rfl rfl rfl rfl rfl ⟨rfl, rfl, rfl, rfl, rfl⟩ rfl rfl rfl rfl rfl (by kernel_rfl) Try.func3 (by kernel_rfl)
    (of_decide_eq_true (by kernel_rfl)) (by unfold Func.isWrapper; first | (rw [if_pos (by decide +kernel)]; kernel_rfl) | (rw [if_neg (by decide +kernel)]; exact ⟨rfl, rfl⟩))
    (fun os started H enc _ => fnHands_lifted os started H enc)

end Go.Proofs.Ytomfaabifpndbaa

