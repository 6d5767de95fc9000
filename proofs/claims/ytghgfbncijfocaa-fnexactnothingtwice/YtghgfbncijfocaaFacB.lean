/-
 How many are under way: both sides.
-/
import Derived.Test.YtghgfbncijfocaaFacP
import Derived.Test.YtghgfbncijfocaaGrow
namespace Go.Proofs.Ytghgfbncijfocaa
set_option linter.unusedSimpArgs false
set_option linter.unusedVariables false
open Go.RowKit
set_option linter.unusedVariables false
attribute [local go_sem ↓] Go.wp_at_zero Go.wp_at_succ

set_option maxHeartbeats 400000 in
theorem smax_any (a b : Int) (w : World) : Calls Try.prog 32 #[.int .i64 a, .int .i64 b] w (Quiet1 (.int .i64 (max a b)) w) := by
 by_cases h : a > b
 all_goals
  go_enter Try.func32, Try.ntmps32
  go_wp2
  go_ret
  exact ⟨by simp [Int.max_def]; omega, rfl⟩

set_option maxHeartbeats 400000 in
theorem underWay_any (x : Ev) (c : Int) (w : World) : Calls Try.prog 40 #[x.V, .int .i64 c] w (RetBelow (.bool (decide (x.b ≤ c) && decide (c ≤ x.e))) w) := by
 by_cases h : x.b ≤ c
 ·
  by_cases h' : c ≤ x.e
  all_goals
   go_enter Try.func40, Try.ntmps40
   go_wp2
   go_ret
   exact .mk (by simp [h, h']) ((Below.refl _ _).alloc (Nat.le_refl _) _)
 ·
  go_enter Try.func40, Try.ntmps40
  go_wp2
  go_ret
  exact .mk (by rw [show decide (x.b ≤ c) = false by simp; omega]; rfl) ((Below.refl _ _).alloc (Nat.le_refl _) _)

set_option maxHeartbeats 1000000 in
theorem busyAt_any (l : List Ev) (c : Int) (A : Option Addr) (n cap : Nat) (w : World) (h : EvsR w A n l) (hn : n ≤ 1048576) :
  Calls Try.prog 33 #[.slice A n cap, .int .i64 c] w (RetBelow (.int .i64 (busyN l c : Int)) w) := by
 have HL := Lib.hid h.1
 go_enter Try.func33, Try.ntmps33
 go_wp2
 go_loopw [5, 10] (fun s5 s10 W => ∃ i : Nat, i ≤ n ∧ s5 = .int .i64 (((l.take i).filter fun x => decide (x.b ≤ c) && decide (c ≤ x.e)).length : Int) ∧ s10 = .int .i64 i ∧ Below w.heap.size w W) (fun _ s10 _ => n - (intOf s10).toNat)
 case atStart => exact ⟨0, Nat.zero_le _, rfl, rfl, Below.refl _ _⟩
 case round =>
  obtain ⟨i, hin, rfl, rfl, hB⟩ := hrel
  by_cases hlt : i < n
  ·
   obtain ⟨b, o, x, rfl, _, hx, c0, c1, c2, c3, c4, c5⟩ := SlE.at_ (SlE.keep EvE.kept h (fun j _ hj => hB.block j hj)) hlt
   have HX := Lib.hid hx; clear hx
   have g1 : (i : Int) < (n : Int) := by omega
   have g2 : (0 : Int) ≤ (i : Int) := by omega
   have hle := cnt_le (p := fun x => decide (x.b ≤ c) && decide (c ≤ x.e)) (l := l) (i := i)
   have HN := Lib.hid (cnt_to (p := fun x => decide (x.b ≤ c) && decide (c ≤ x.e)) HX.out)
   generalize hm : ((l.take i).filter fun x => decide (x.b ≤ c) && decide (c ≤ x.e)).length = m at *
   go_wp2_with fail
   refine calls_abs (fun W => Below w.heap.size w W ∧ BoxAt W wr.heap.size #[.int .i64 x.who, .bool x.put, .int .i64 x.v, .int .i64 x.re, .int .i64 x.b, .int .i64 x.e] 31) ⟨hB.alloc hB.size _, BoxAt.new _ _ _⟩ ?_
   rintro W ⟨hB1, hx⟩
   refine (underWay_any x c _).mono ?_
   rintro e w1 ⟨rfl, hb1⟩
   replace hB := bstep hB1 hB1.size hb1
   clear c0 c1 c2 c3 c4 c5 hb1 hB1
   have wq : IntKind.wrap .i64 ((m : Int) + 1) = (m : Int) + 1 := Go.IntWalk.i64_in _ (by omega)
   cases hok : (decide (x.b ≤ c) && decide (c ≤ x.e))
   ·
    go_wp2
    go_roundw
    case rel => exact ⟨i + 1, by omega, by rw [HN.out, hok]; rfl, by go_num, hB⟩
    case measure => simp [intOf]; omega
   ·
    go_wp2
    go_roundw
    case rel => exact ⟨i + 1, by omega, by rw [HN.out, hok]; rfl, by go_num, hB⟩
    case measure => simp [intOf]; omega
  ·
   have g1 : ¬ (i : Int) < (n : Int) := by omega
   obtain rfl : n = i := by omega
   have HQ := Lib.hid (show ((l.take n).filter fun x => decide (x.b ≤ c) && decide (c ≤ x.e)).length = busyN l c by rw [busyN, ← HL.out, List.take_length])
   rw [HQ.out]
   go_wp2
   go_ret
   exact .mk rfl hB

set_option maxHeartbeats 1000000 in
theorem ibusy_any (l : List Ev) (A : Option Addr) (n cap : Nat) (w : World) (h : EvsR w A n l) (hn : n ≤ 1048576) :
  Calls Try.prog 17 #[.slice A n cap] w (RetBelow (.int .i64 (busyZ l)) w) := by
 have HL := Lib.hid h.1
 go_enter Try.func17, Try.ntmps17
 go_wp2_with fail
 refine (istory_any l A n cap _ h hn).mono ?_
 rintro e w1 ⟨rfl, hB⟩
 have h1 := h.below hB
 cases hok : storyOk l
 ·
  go_wp2
  go_ret
  exact .mk (by rw [busyZ, hok]; rfl) hB
 have HOK := Lib.hid hok; clear hok
 go_wp2
 go_loopw [3, 11] (fun s3 s11 W => ∃ i : Nat, i ≤ n ∧ s3 = .int .i64 (busyTo l i : Int) ∧ s11 = .int .i64 i ∧ Below w1.heap.size w1 W) (fun _ s11 _ => n - (intOf s11).toNat)
 case atStart => exact ⟨0, Nat.zero_le _, rfl, rfl, Below.refl _ _⟩
 case round =>
  obtain ⟨i, hin, rfl, rfl, hB1⟩ := hrel
  have hr := SlE.keep EvE.kept h1 (fun j _ hj => hB1.block j hj)
  by_cases hlt : i < n
  ·
   obtain ⟨b, o, x, rfl, _, hx, c0, c1, c2, c3, c4, c5⟩ := SlE.at_ hr hlt
   have HN := Lib.hid (busyTo_next hx)
   have hle := busyTo_le l i
   have hle2 := busyN_le l x.b
   have hln := HL.out
   have g1 : (i : Int) < (n : Int) := by omega
   have g2 : (0 : Int) ≤ (i : Int) := by omega
   generalize hm : busyTo l i = m at *
   go_upto_region 7 with fail
   refine wp_abs (fun W => Below w1.heap.size w1 W ∧ EvsR W (some ⟨b, o, none⟩) n l ∧ BoxAt W wr.heap.size #[.int .i64 x.who, .bool x.put, .int .i64 x.v, .int .i64 x.re, .int .i64 x.b, .int .i64 x.e] 31) ⟨hB1.alloc hB1.size _, EvsR.below hr ((Below.refl _ _).alloc (Nat.le_refl _) _), BoxAt.new _ _ _⟩ ?_
   rintro W ⟨hB2, hr2, hx⟩
   have kx := hx.cell
   clear c0 c1 c2 c3 c4 c5
   go_wp2_with fail
   refine (busyAt_any l x.b _ n cap _ hr2 hn).mono ?_
   rintro e w2 ⟨rfl, hb2⟩
   replace hB1 := bstep hB2 hB2.size hb2
   clear kx hx hb2 hB2 hr2 hr
   generalize busyN l x.b = q at *
   by_cases hq : (m : Int) < (q : Int)
   all_goals
    go_wp2
    go_roundw
    case rel => exact ⟨i + 1, by omega, by rw [HN.out]; simp only [Value.int.injEq, true_and]; omega, by go_num, hB1⟩
    case measure => simp [intOf]; omega
  ·
   have g1 : ¬ (i : Int) < (n : Int) := by omega
   obtain rfl : n = i := by omega
   go_wp2
   go_ret
   exact .mk (by rw [busyZ, HOK.out, ← HL.out]; rfl) (bstep hB hB.size hB1)

set_option maxHeartbeats 1000000 in
theorem sbusy_any (l : List Ev) (A : Option Addr) (n cap : Nat) (w : World) (h : EvsR w A n l) (hn : n ≤ 1048576) :
  Calls Try.prog 16 #[.slice A n cap] w (RetBelow (.int .i64 (busyZ l)) w) := by
 have HL := Lib.hid h.1
 go_enter Try.func16, Try.ntmps16
 go_wp2_with fail
 refine (sstory_any l A n cap _ h hn).mono ?_
 rintro e w1 ⟨rfl, hB⟩
 have h1 := h.below hB
 cases hok : storyOk l
 ·
  go_wp2
  go_ret
  exact .mk (by rw [busyZ, hok]; rfl) hB
 have HOK := Lib.hid hok; clear hok
 go_wp2
 go_loopw [3, 4] (fun s3 s4 W => ∃ i : Nat, i ≤ n ∧ s3 = .int .i64 (busyTo l i : Int) ∧ s4 = .int .i64 i ∧ Below w1.heap.size w1 W) (fun _ s4 _ => n - (intOf s4).toNat)
 case atStart => exact ⟨0, Nat.zero_le _, rfl, rfl, Below.refl _ _⟩
 case round =>
  obtain ⟨i, hin, rfl, rfl, hB1⟩ := hrel
  have hr := SlE.keep EvE.kept h1 (fun j _ hj => hB1.block j hj)
  by_cases hlt : i < n
  ·
   obtain ⟨b, o, x, rfl, _, hx, _⟩ := SlE.at_ hr hlt
   have HN := Lib.hid (busyTo_next hx)
   have HX := Lib.hid hx; clear hx
   have hle := busyTo_le l i
   have hle2 := busyN_le l x.b
   have hln := HL.out
   have g1 : (i : Int) < (n : Int) := by omega
   have g2 : (0 : Int) ≤ (i : Int) := by omega
   generalize hm : busyTo l i = m at *
   go_wp2
   go_loopw [5, 6] (fun s5 s6 W => ∃ k : Nat, k ≤ n ∧ s5 = .int .i64 (((l.take k).filter fun y => decide (y.b ≤ x.b) && decide (x.b ≤ y.e)).length : Int) ∧ s6 = .int .i64 k ∧ Below w1.heap.size w1 W) (fun _ s6 _ => n - (intOf s6).toNat)
   case atStart => exact ⟨0, Nat.zero_le _, rfl, rfl, hB1⟩
   case round =>
    clear hB1 hr
    obtain ⟨k, hkn, rfl, rfl, hB1⟩ := hrel
    have hr := SlE.keep EvE.kept h1 (fun j _ hj => hB1.block j hj)
    by_cases hkt : k < n
    ·
     obtain ⟨b', o', y, e', _, hy, d0, d1, d2, d3, d4, d5⟩ := SlE.at_ hr hkt
     obtain ⟨b', o', x', e'', _, hx', c0, c1, c2, c3, c4, c5⟩ := SlE.at_ hr hlt
     injection e' with e'; injection e' with e1 e2; subst e1 e2
     injection e'' with e''; injection e'' with e1 e2; subst e1 e2
     obtain rfl : x = x' := by have := HX.out; rw [hx'] at this; injection this with this; exact this.symm
     clear hx'
     have hle := cnt_le (p := fun y => decide (y.b ≤ x.b) && decide (x.b ≤ y.e)) (l := l) (i := k)
     have HK := Lib.hid (cnt_to (p := fun y => decide (y.b ≤ x.b) && decide (x.b ≤ y.e)) hy)
     generalize hq : ((l.take k).filter fun y => decide (y.b ≤ x.b) && decide (x.b ≤ y.e)).length = q at *
     have k1 : (k : Int) < (n : Int) := by omega
     have k2 : (0 : Int) ≤ (k : Int) := by omega
     have wq : IntKind.wrap .i64 ((q : Int) + 1) = (q : Int) + 1 := Go.IntWalk.i64_in _ (by omega)
     clear hy
     by_cases h1' : y.b ≤ x.b
     ·
      by_cases h2' : x.b ≤ y.e
      ·
       go_wp2
       go_quiet (fail)
       go_wp2
       go_roundw
       case rel => exact ⟨k + 1, by omega, by rw [HK.out]; simp [h1', h2'], by go_num, ⟨hB1.os, hB1.tape, hB1.output, hB1.size, hB1.block⟩⟩
       case measure => simp [intOf]; omega
      ·
       go_wp2
       go_quiet (fail)
       go_wp2
       go_roundw
       case rel => exact ⟨k + 1, by omega, by rw [HK.out, show decide (x.b ≤ y.e) = false by simp; omega, Bool.and_false]; rfl, by go_num, ⟨hB1.os, hB1.tape, hB1.output, hB1.size, hB1.block⟩⟩
       case measure => simp [intOf]; omega
     ·
      have h3' : decide (y.b ≤ x.b) = false := by simp; omega
      go_wp2
      go_quiet (fail)
      go_wp2
      go_roundw
      case rel => exact ⟨k + 1, by omega, by rw [HK.out, show decide (y.b ≤ x.b) = false by simp; omega]; rfl, by go_num, ⟨hB1.os, hB1.tape, hB1.output, hB1.size, hB1.block⟩⟩
      case measure => simp [intOf]; omega
    ·
     have k1 : ¬ (k : Int) < (n : Int) := by omega
     obtain rfl : n = k := by omega
     have HQ := Lib.hid (show ((l.take n).filter fun y => decide (y.b ≤ x.b) && decide (x.b ≤ y.e)).length = busyN l x.b by rw [busyN, ← HL.out, List.take_length])
     rw [HQ.out]
     go_wp2_with fail
     refine (smax_any _ _ _).mono ?_
     rintro e w2 ⟨rfl, rfl⟩
     go_wp2
     go_roundw
     case rel => exact ⟨i + 1, by omega, by rw [HN.out]; simp only [Value.int.injEq, true_and]; omega, by go_num, hB1⟩
     case measure => simp [intOf]; omega
  ·
   have g1 : ¬ (i : Int) < (n : Int) := by omega
   obtain rfl : n = i := by omega
   go_wp2
   go_ret
   exact .mk (by rw [busyZ, HOK.out, ← HL.out]; rfl) (bstep hB hB.size hB1)

end Go.Proofs.Ytghgfbncijfocaa
