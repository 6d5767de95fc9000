/-
 How many are under way: both sides.
-/
import Derived.Test.YtiiaimjlohpemaaGreatRepB
import Derived.Test.YtiiaimjlohpemaaGreatGrow
import Derived.Test.YtiiaimjlohpemaaGreatFacT
namespace Go.Proofs.YtiiaimjlohpemaaGreat
set_option linter.unusedSimpArgs false
set_option linter.unusedVariables false
open Go.RowKit
set_option linter.unusedVariables false
attribute [local go_sem ↓] Go.wp_at_zero Go.wp_at_succ

theorem zfacV0 {p : Prop} (h : p := by
 clear hw hcl hL hC
 refine OpGoes.go fun K hK => ?_
 go_simp
 exact hK _ _ ⟨rfl, rfl⟩) : p := h -- ee92c020
theorem zfacV1 {p : Prop} (h : p := by
 go_light
 intro L σ W' hcl hL hC hw
 have e14 := wV hw 14 rfl
 have e18 := wV hw 18 rfl
 have e22 := wV hw 22 rfl
 clear hw
 have HC := Lib.hid hC
 clear hC
 clear hcl hL
 refine OpGoes.go fun K hK => ?_
 go_simp
 obtain ⟨hB, hl⟩ := HC.out
 refine (sahd_any y x _).mono ?_
 rintro e w1 ⟨rfl, hb1⟩
 exact ⟨_, rfl, hK _ _ ⟨⟨bstep hB hB.size hb1, hl.below hb1⟩, congrArg Value.bool HT.out, hb1⟩⟩) : p := h -- 01257742
theorem zfacV2 {p : Prop} (h : p := by
 go_light
 intro L σ W' hcl hL hC hw
 have e19 := wV hw 19 rfl
 have e20 := wV hw 20 rfl
 have e25 := wV hw 25 rfl
 have e29 := wV hw 29 rfl
 clear hw
 have HC := Lib.hid hC
 clear hC
 clear hcl hL
 refine OpGoes.go fun K hK => ?_
 go_simp
 obtain ⟨hB, hl⟩ := HC.out
 refine (sgot_any l x.v z _ n cap _ hl hn).mono ?_
 rintro e w1 ⟨rfl, hb1⟩
 exact ⟨_, rfl, hK _ _ ⟨⟨bstep hB hB.size hb1, hl.below hb1⟩, congrArg Value.bool HG.out, hb1⟩⟩) : p := h -- 44dceaed
theorem zfacV3 {p : Prop} (h : p := by
 go_light
 intro L σ W' hcl hL hC hw
 have e25 := wV hw 25 rfl
 have e26 := wV hw 26 rfl
 have e31 := wV hw 31 rfl
 have e35 := wV hw 35 rfl
 clear hw
 have HC := Lib.hid hC
 clear hC
 clear hcl hL
 refine OpGoes.go fun K hK => ?_
 go_simp
 obtain ⟨hB, hl⟩ := HC.out
 refine (sgot_any l y.v x _ n cap _ hl hn).mono ?_
 rintro e w1 ⟨rfl, hb1⟩
 exact ⟨_, rfl, hK _ _ ⟨⟨bstep hB hB.size hb1, hl.below hb1⟩, congrArg Value.bool HG.out, hb1⟩⟩) : p := h -- 40cd2b80
theorem zfacV4 {p : Prop} (h : p := by
 go_light
 intro L σ W' hcl hL hC hw
 have e14 := wV hw 14 rfl
 have e18 := wV hw 18 rfl
 have e22 := wV hw 22 rfl
 clear hw
 have HC := Lib.hid hC
 clear hC
 clear hcl hL
 refine OpGoes.go fun K hK => ?_
 go_simp
 obtain ⟨hB, hl⟩ := HC.out
 refine (sahd_any x y _).mono ?_
 rintro e w1 ⟨rfl, hb1⟩
 exact ⟨_, rfl, hK _ _ ⟨⟨bstep hB hB.size hb1, hl.below hb1⟩, congrArg Value.bool HT.out, hb1⟩⟩) : p := h -- 31c3dc7a
theorem zfacV5 {p : Prop} (h : p := by
 intro σ L W' hall hC hRR
 obtain ⟨hB, hl⟩ := hC
 have e38 := dV hRR 38 rfl
 clear hRR
 simp only [lexAll]
 go_simp
 go_step
 go_wp2
 go_roundw
 case rel => exact ⟨k + 1, by omega, by go_num, hB, all_to (p := (fun y => !(x.re == 3 && y.re == 1 && decide (y.e < x.b)) || gotB l y.v x)) HX_k.out HAK.out HQ.out⟩
 case measure => simp [intOf]; omega) : p := h -- 49139e88
theorem zfacV6 {p : Prop} (h : p := by
 go_wp2
 go_quiet (fail)
 go_wp2
 go_roundw
 case rel => exact ⟨k + 1, by omega, by go_num, ⟨hB.os, hB.tape, hB.output, hB.size, hB.block⟩, all_to (p := (fun y => !(x.re == 1 && y.re == 1 && decide (x.e < y.b)) || l.all fun z => !(z.re == 4 && z.v == y.v) || gotB l x.v z)) HX_k.out HAK.out HQ.out⟩
 case measure => simp [intOf]; omega) : p := h -- d75a77e9
theorem zfacV7 {p : Prop} (h : p := by
 go_wp2
 go_quiet (fail)
 go_wp2
 go_roundw
 case rel => exact ⟨j + 1, by omega, by go_num, ⟨hB.os, hB.tape, hB.output, hB.size, hB.block⟩, all_to (p := (fun z => !(z.re == 4 && z.v == y.v) || gotB l x.v z)) HX_j.out HAJ.out HQ.out⟩
 case measure => simp [intOf]; omega) : p := h -- e10fe0ed
theorem zfacV8 {p : Prop} (h : p := by
 go_wp2
 go_quiet (fail)
 go_wp2
 go_roundw
 case rel => exact ⟨k + 1, by omega, by go_num, ⟨hB.os, hB.tape, hB.output, hB.size, hB.block⟩, all_to (p := (fun y => !(x.re == 3 && y.re == 1 && decide (y.e < x.b)) || gotB l y.v x)) HX_k.out HAK.out HQ.out⟩
 case measure => simp [intOf]; omega) : p := h -- a780881f
theorem zfacV9 {p : Prop} (h : p := by
 go_wp2
 go_roundw
 case rel => exact ⟨k + 1, by omega, by go_num, hB, all_to (p := (fun y => !(x.re == 1 && y.re == 1 && decide (x.e < y.b)) || l.all fun z => !(z.re == 4 && z.v == y.v) || gotB l x.v z)) HX_k.out HAK.out HQ.out⟩
 case measure => simp [intOf]; omega) : p := h -- 57b708ed
theorem zfacV10 {p : Prop} (h : p := by
 clear hRR
 simp only [lexAll]
 go_simp
 go_step
 go_wp2
 go_ret
 exact .mk (congrArg Value.bool HR.out.symm) (bstep hBa hBa.size hB)) : p := h -- 153618e1
theorem zfacV11 {p : Prop} (h : p := by
 have g1 : ¬ (i : Int) < (n : Int) := by omega
 obtain rfl : n = i := by omega
 go_wp2
 go_ret
 exact .mk (by rw [busyZ, HOK.out, ← HL.out]; rfl) (bstep hB hB.size hB1)) : p := h -- 631e1e88
theorem zfacV12 {p : Prop} (h : p := by
 go_roundw
 case rel => exact ⟨i + 1, by omega, by rw [HN.out]; simp only [Value.int.injEq, true_and]; omega, by go_num, hB1⟩
 case measure => simp [intOf]; omega) : p := h -- b5213784
theorem zfacV13 {p : Prop} (h : p := by
 go_wp2
 go_roundw
 case rel => exact ⟨i + 1, by omega, by rw [HN.out, hok]; rfl, by go_num, hB⟩
 case measure => simp [intOf]; omega) : p := h -- 9fee1a28

set_option maxHeartbeats 400000 in
theorem smax_any (a b : Int) (w : World) : Calls Tryz.prog 29 #[a, b] w (Quiet1 (.int .i64 (max a b)) w) := by
 by_cases h : a > b
 all_goals
  go_enter Tryz.func29, Tryz.ntmps29
  go_wp2
  go_ret
  exact ⟨by simp [Int.max_def]; omega, rfl⟩

set_option maxHeartbeats 400000 in
theorem underWay_any (x : Ev) (c : Int) (w : World) : Calls Tryz.prog 39 #[x.V, .int .i64 c] w (RetBelow (.bool (decide (x.b ≤ c) && decide (c ≤ x.e))) w) := by
 by_cases h : x.b ≤ c
 ·
  by_cases h' : c ≤ x.e
  all_goals
   go_enter Tryz.func39, Tryz.ntmps39
   go_wp2
   go_ret
   exact .mk (by simp [h, h']) ((Below.refl _ _).alloc (Nat.le_refl _) _)
 ·
  go_enter Tryz.func39, Tryz.ntmps39
  go_wp2
  go_ret
  exact .mk (by rw [show decide (x.b ≤ c) = false by simp; omega]; rfl) ((Below.refl _ _).alloc (Nat.le_refl _) _)

set_option maxHeartbeats 1000000 in
theorem busyAt_any (l : List Ev) (c : Int) (A : Option Addr) (n cap : Nat) (w : World) (h : EvsR w A n l) (hn : n ≤ 1048576) :
  Calls Tryz.prog 24 #[.slice A n cap, c] w (RetBelow (.int .i64 (busyN l c : Int)) w) := by
 have HL := Lib.hid h.1
 go_enter Tryz.func24, Tryz.ntmps24
 go_wp2
 go_loopw [5, 10] (fun s5 s10 W => ∃ i : Nat, i ≤ n ∧ s5 = .int .i64 (((l.take i).filter fun x => decide (x.b ≤ c) && decide (c ≤ x.e)).length : Int) ∧ s10 = .int .i64 i ∧ Below w.heap.size w W) (fun _ s10 _ => n - (intOf s10).toNat)
 case atStart => exact ⟨0, Nat.zero_le _, rfl, rfl, Below.refl _ _⟩
 case round =>
  obtain ⟨i, hin, rfl, rfl, hB⟩ := hrel
  by_cases hlt : i < n
  ·
   obtain ⟨b, o, x, rfl, _, hx, c0, c1, c2, c3, c4, c5⟩ := SlE.at_ (SlE.keep EvE.kept h (fun j _ hj => hB.block j hj)) hlt
   have HX := Lib.hid hx; clear hx
   have g1 : (i : Int) < (n : Int) := by omega
   have g2 : (0 : Int) ≤ (i : Int) := by omega
   have hle := cnt_le (p := fun x => decide (x.b ≤ c) && decide (c ≤ x.e)) (l := l) (i := i)
   have HN := Lib.hid (cnt_to (p := fun x => decide (x.b ≤ c) && decide (c ≤ x.e)) HX.out)
   generalize hm : ((l.take i).filter fun x => decide (x.b ≤ c) && decide (c ≤ x.e)).length = m at *
   go_wp2_with fail
   refine calls_abs (fun W => Below w.heap.size w W ∧ BoxAt W wr.heap.size #[x.who, x.put, x.v, x.re, x.b, x.e] 32) ⟨hB.alloc hB.size _, BoxAt.new _ _ _⟩ ?_
   rintro W ⟨hB1, hx⟩
   refine (underWay_any x c _).mono ?_
   rintro e w1 ⟨rfl, hb1⟩
   replace hB := bstep hB1 hB1.size hb1
   clear c0 c1 c2 c3 c4 c5 hb1 hB1
   have wq : IntKind.wrap .i64 ((m : Int) + 1) = (m : Int) + 1 := Go.IntWalk.i64_in _ (by omega)
   cases hok : (decide (x.b ≤ c) && decide (c ≤ x.e))
   ·
    exact zfacV13
   ·
    exact zfacV13
  ·
   have g1 : ¬ (i : Int) < (n : Int) := by omega
   obtain rfl : n = i := by omega
   have HQ := Lib.hid (show ((l.take n).filter fun x => decide (x.b ≤ c) && decide (c ≤ x.e)).length = busyN l c by rw [busyN, ← HL.out, List.take_length])
   rw [HQ.out]
   go_wp2
   go_ret
   exact .mk rfl hB

set_option maxHeartbeats 1000000 in
theorem ibusy_any (l : List Ev) (A : Option Addr) (n cap : Nat) (w : World) (h : EvsR w A n l) (hn : n ≤ 1048576) :
  Calls Tryz.prog 9 #[.slice A n cap] w (RetBelow (.int .i64 (busyZ l)) w) := by
 have HL := Lib.hid h.1
 go_enter Tryz.func9, Tryz.ntmps9
 go_wp2_with fail
 refine (istory_any l A n cap _ h hn).mono ?_
 rintro e w1 ⟨rfl, hB⟩
 have h1 := h.below hB
 cases hok : storyOk l
 ·
  go_wp2
  go_ret
  exact .mk (by rw [busyZ, hok]; rfl) hB
 have HOK := Lib.hid hok; clear hok
 go_wp2
 go_loopw [3, 11] (fun s3 s11 W => ∃ i : Nat, i ≤ n ∧ s3 = .int .i64 (busyTo l i : Int) ∧ s11 = .int .i64 i ∧ Below w1.heap.size w1 W) (fun _ s11 _ => n - (intOf s11).toNat)
 case atStart => exact ⟨0, Nat.zero_le _, rfl, rfl, Below.refl _ _⟩
 case round =>
  obtain ⟨i, hin, rfl, rfl, hB1⟩ := hrel
  have hr := SlE.keep EvE.kept h1 (fun j _ hj => hB1.block j hj)
  by_cases hlt : i < n
  ·
   obtain ⟨b, o, x, rfl, _, hx, c0, c1, c2, c3, c4, c5⟩ := SlE.at_ hr hlt
   have HN := Lib.hid (busyTo_next hx)
   have hle := busyTo_le l i
   have hle2 := busyN_le l x.b
   have hln := HL.out
   have g1 : (i : Int) < (n : Int) := by omega
   have g2 : (0 : Int) ≤ (i : Int) := by omega
   generalize hm : busyTo l i = m at *
   go_upto_region 7 with fail
   refine wp_abs (fun W => Below w1.heap.size w1 W ∧ EvsR W (some ⟨b, o, none⟩) n l ∧ BoxAt W wr.heap.size #[x.who, x.put, x.v, x.re, x.b, x.e] 32) ⟨hB1.alloc hB1.size _, EvsR.below hr ((Below.refl _ _).alloc (Nat.le_refl _) _), BoxAt.new _ _ _⟩ ?_
   rintro W ⟨hB2, hr2, hx⟩
   have kx := hx.cell
   clear c0 c1 c2 c3 c4 c5
   go_wp2_with fail
   refine (busyAt_any l x.b _ n cap _ hr2 hn).mono ?_
   rintro e w2 ⟨rfl, hb2⟩
   replace hB1 := bstep hB2 hB2.size hb2
   clear kx hx hb2 hB2 hr2 hr
   generalize busyN l x.b = q at *
   by_cases hq : (m : Int) < (q : Int)
   all_goals
    go_wp2
    exact zfacV12
  ·
   exact zfacV11

set_option maxHeartbeats 1000000 in
theorem sbusy_any (l : List Ev) (A : Option Addr) (n cap : Nat) (w : World) (h : EvsR w A n l) (hn : n ≤ 1048576) :
  Calls Tryz.prog 13 #[.slice A n cap] w (RetBelow (.int .i64 (busyZ l)) w) := by
 have HL := Lib.hid h.1
 go_enter Tryz.func13, Tryz.ntmps13
 go_wp2_with fail
 refine (sstory_any l A n cap _ h hn).mono ?_
 rintro e w1 ⟨rfl, hB⟩
 have h1 := h.below hB
 cases hok : storyOk l
 ·
  go_wp2
  go_ret
  exact .mk (by rw [busyZ, hok]; rfl) hB
 have HOK := Lib.hid hok; clear hok
 go_wp2
 go_loopw [3, 4] (fun s3 s4 W => ∃ i : Nat, i ≤ n ∧ s3 = .int .i64 (busyTo l i : Int) ∧ s4 = .int .i64 i ∧ Below w1.heap.size w1 W) (fun _ s4 _ => n - (intOf s4).toNat)
 case atStart => exact ⟨0, Nat.zero_le _, rfl, rfl, Below.refl _ _⟩
 case round =>
  obtain ⟨i, hin, rfl, rfl, hB1⟩ := hrel
  have hr := SlE.keep EvE.kept h1 (fun j _ hj => hB1.block j hj)
  by_cases hlt : i < n
  ·
   obtain ⟨b, o, x, rfl, _, hx, _⟩ := SlE.at_ hr hlt
   have HN := Lib.hid (busyTo_next hx)
   have HX := Lib.hid hx; clear hx
   have hle := busyTo_le l i
   have hle2 := busyN_le l x.b
   have hln := HL.out
   have g1 : (i : Int) < (n : Int) := by omega
   have g2 : (0 : Int) ≤ (i : Int) := by omega
   generalize hm : busyTo l i = m at *
   go_wp2
   go_loopw [5, 6] (fun s5 s6 W => ∃ k : Nat, k ≤ n ∧ s5 = .int .i64 (((l.take k).filter fun y => decide (y.b ≤ x.b) && decide (x.b ≤ y.e)).length : Int) ∧ s6 = .int .i64 k ∧ Below w1.heap.size w1 W) (fun _ s6 _ => n - (intOf s6).toNat)
   case atStart => exact ⟨0, Nat.zero_le _, rfl, rfl, hB1⟩
   case round =>
    clear hB1 hr
    obtain ⟨k, hkn, rfl, rfl, hB1⟩ := hrel
    have hr := SlE.keep EvE.kept h1 (fun j _ hj => hB1.block j hj)
    by_cases hkt : k < n
    ·
     obtain ⟨b', o', y, e', _, hy, d0, d1, d2, d3, d4, d5⟩ := SlE.at_ hr hkt
     obtain ⟨b', o', x', e'', _, hx', c0, c1, c2, c3, c4, c5⟩ := SlE.at_ hr hlt
     injection e' with e'; injection e' with e1 e2; subst e1 e2
     injection e'' with e''; injection e'' with e1 e2; subst e1 e2
     obtain rfl : x = x' := by have := HX.out; rw [hx'] at this; injection this with this; exact this.symm
     clear hx'
     have hle := cnt_le (p := fun y => decide (y.b ≤ x.b) && decide (x.b ≤ y.e)) (l := l) (i := k)
     have HK := Lib.hid (cnt_to (p := fun y => decide (y.b ≤ x.b) && decide (x.b ≤ y.e)) hy)
     generalize hq : ((l.take k).filter fun y => decide (y.b ≤ x.b) && decide (x.b ≤ y.e)).length = q at *
     have k1 : (k : Int) < (n : Int) := by omega
     have k2 : (0 : Int) ≤ (k : Int) := by omega
     have wq : IntKind.wrap .i64 ((q : Int) + 1) = (q : Int) + 1 := Go.IntWalk.i64_in _ (by omega)
     clear hy
     by_cases h1' : y.b ≤ x.b
     ·
      by_cases h2' : x.b ≤ y.e
      ·
       go_wp2
       go_quiet (fail)
       go_wp2
       go_roundw
       case rel => exact ⟨k + 1, by omega, by rw [HK.out]; simp [h1', h2'], by go_num, ⟨hB1.os, hB1.tape, hB1.output, hB1.size, hB1.block⟩⟩
       case measure => simp [intOf]; omega
      ·
       go_wp2
       go_quiet (fail)
       go_wp2
       go_roundw
       case rel => exact ⟨k + 1, by omega, by rw [HK.out, show decide (x.b ≤ y.e) = false by simp; omega, Bool.and_false]; rfl, by go_num, ⟨hB1.os, hB1.tape, hB1.output, hB1.size, hB1.block⟩⟩
       case measure => simp [intOf]; omega
     ·
      have h3' : decide (y.b ≤ x.b) = false := by simp; omega
      go_wp2
      go_quiet (fail)
      go_wp2
      go_roundw
      case rel => exact ⟨k + 1, by omega, by rw [HK.out, show decide (y.b ≤ x.b) = false by simp; omega]; rfl, by go_num, ⟨hB1.os, hB1.tape, hB1.output, hB1.size, hB1.block⟩⟩
      case measure => simp [intOf]; omega
    ·
     have k1 : ¬ (k : Int) < (n : Int) := by omega
     obtain rfl : n = k := by omega
     have HQ := Lib.hid (show ((l.take n).filter fun y => decide (y.b ≤ x.b) && decide (x.b ≤ y.e)).length = busyN l x.b by rw [busyN, ← HL.out, List.take_length])
     rw [HQ.out]
     go_wp2_with fail
     refine (smax_any _ _ _).mono ?_
     rintro e w2 ⟨rfl, rfl⟩
     go_wp2
     exact zfacV12
  ·
   exact zfacV11

end Go.Proofs.YtiiaimjlohpemaaGreat

/-
 The model's InOrder.
-/
namespace Go.Proofs.YtiiaimjlohpemaaGreat
set_option linter.unusedSimpArgs false
set_option linter.unusedVariables false
open Go.RowKit
set_option linter.unusedVariables false
attribute [local go_sem] OpUpon
attribute [local go_sem ↓] Go.wp_at_zero Go.wp_at_succ

def ioCV (l : List Ev) (x y z q : Ev) (b o n cap i k j BX : Nat) (w0 : World) : List Sl := [.v (.slice (some ⟨b, o, none⟩) n cap),
 .v (.int .i64 ((i : Int))),
 .v (.pointer (some ⟨b, o + i * 6, none⟩)),
 .v (.pointer (some ⟨b, o + i * 6 + 3, none⟩)),
 .v x.re,
 .v (.bool false),
 .v (.bool false),
 .v (.slice (some ⟨b, o, none⟩) n cap),
 .v (.int .i64 ((k : Int))),
 .v (.pointer (some ⟨b, o + k * 6, none⟩)),
 .v (.pointer (some ⟨b, o + k * 6 + 3, none⟩)),
 .v y.re,
 .v (.bool false),
 .v (.bool false),
 .v (.bool false),
 .v (.slice (some ⟨b, o, none⟩) n cap),
 .v (.int .i64 ((i : Int))),
 .v (.pointer (some ⟨b, o + i * 6, none⟩)),
 .v (.agg #[x.who, x.put, x.v, x.re, x.b, x.e]),
 .v (.slice (some ⟨b, o, none⟩) n cap),
 .v (.int .i64 ((k : Int))),
 .v (.pointer (some ⟨b, o + k * 6, none⟩)),
 .v (.agg #[y.who, y.put, y.v, y.re, y.b, y.e]),
 .v (.bool false),
 .v (.bool true),
 .v (.bool true)]

def ioDV (l : List Ev) (x y z q : Ev) (b o n cap i k j BX : Nat) (w0 : World) : List Sl := [.v (.slice (some ⟨b, o, none⟩) n cap),
 .v (.int .i64 ((i : Int))),
 .v (.pointer (some ⟨b, o + i * 6, none⟩)),
 .v (.pointer (some ⟨b, o + i * 6 + 3, none⟩)),
 .v x.re,
 .v (.bool false),
 .v (.bool false),
 .v (.slice (some ⟨b, o, none⟩) n cap),
 .v (.int .i64 ((k : Int))),
 .v (.pointer (some ⟨b, o + k * 6, none⟩)),
 .v (.pointer (some ⟨b, o + k * 6 + 3, none⟩)),
 .v y.re,
 .v (.bool false),
 .v (.bool false),
 .v (.bool false),
 .v (.slice (some ⟨b, o, none⟩) n cap),
 .v (.int .i64 ((i : Int))),
 .v (.pointer (some ⟨b, o + i * 6, none⟩)),
 .v (.agg #[x.who, x.put, x.v, x.re, x.b, x.e]),
 .v (.slice (some ⟨b, o, none⟩) n cap),
 .v (.int .i64 ((k : Int))),
 .v (.pointer (some ⟨b, o + k * 6, none⟩)),
 .v (.agg #[y.who, y.put, y.v, y.re, y.b, y.e]),
 .v (.bool true),
 .v (.bool false),
 .v (.bool false)]

def ioGV (l : List Ev) (x y z q : Ev) (b o n cap i k j BX : Nat) (w0 : World) : List Sl := [.v (.slice (some ⟨b, o, none⟩) n cap),
 .v (.int .i64 ((j : Int))),
 .v (.pointer (some ⟨b, o + j * 6, none⟩)),
 .v (.pointer (some ⟨b, o + j * 6 + 3, none⟩)),
 .v z.re,
 .v (.bool true),
 .v (.bool true),
 .v (.slice (some ⟨b, o, none⟩) n cap),
 .v (.int .i64 ((j : Int))),
 .v (.pointer (some ⟨b, o + j * 6, none⟩)),
 .v (.pointer (some ⟨b, o + j * 6 + 2, none⟩)),
 .v z.v,
 .v (.slice (some ⟨b, o, none⟩) n cap),
 .v (.int .i64 ((k : Int))),
 .v (.pointer (some ⟨b, o + k * 6, none⟩)),
 .v (.pointer (some ⟨b, o + k * 6 + 2, none⟩)),
 .v y.v,
 .v (.bool true),
 .v (.bool true),
 .v (.bool true),
 .v (.slice (some ⟨b, o, none⟩) n cap),
 .v (.slice (some ⟨b, o, none⟩) n cap),
 .v (.int .i64 ((i : Int))),
 .v (.pointer (some ⟨b, o + i * 6, none⟩)),
 .v (.pointer (some ⟨b, o + i * 6 + 2, none⟩)),
 .v x.v,
 .v (.slice (some ⟨b, o, none⟩) n cap),
 .v (.int .i64 ((j : Int))),
 .v (.pointer (some ⟨b, o + j * 6, none⟩)),
 .v (.agg #[z.who, z.put, z.v, z.re, z.b, z.e]),
 .v (.bool true),
 .v (.bool false),
 .v (.bool false)]

def ioHV (l : List Ev) (x y z q : Ev) (b o n cap i k j BX : Nat) (w0 : World) : List Sl := [.v (.slice (some ⟨b, o, none⟩) n cap),
 .v (.int .i64 ((j : Int))),
 .v (.pointer (some ⟨b, o + j * 6, none⟩)),
 .v (.pointer (some ⟨b, o + j * 6 + 3, none⟩)),
 .v z.re,
 .v (.bool true),
 .v (.bool true),
 .v (.slice (some ⟨b, o, none⟩) n cap),
 .v (.int .i64 ((j : Int))),
 .v (.pointer (some ⟨b, o + j * 6, none⟩)),
 .v (.pointer (some ⟨b, o + j * 6 + 2, none⟩)),
 .v z.v,
 .v (.slice (some ⟨b, o, none⟩) n cap),
 .v (.int .i64 ((k : Int))),
 .v (.pointer (some ⟨b, o + k * 6, none⟩)),
 .v (.pointer (some ⟨b, o + k * 6 + 2, none⟩)),
 .v y.v,
 .v (.bool true),
 .v (.bool true),
 .v (.bool true),
 .v (.slice (some ⟨b, o, none⟩) n cap),
 .v (.slice (some ⟨b, o, none⟩) n cap),
 .v (.int .i64 ((i : Int))),
 .v (.pointer (some ⟨b, o + i * 6, none⟩)),
 .v (.pointer (some ⟨b, o + i * 6 + 2, none⟩)),
 .v x.v,
 .v (.slice (some ⟨b, o, none⟩) n cap),
 .v (.int .i64 ((j : Int))),
 .v (.pointer (some ⟨b, o + j * 6, none⟩)),
 .v (.agg #[z.who, z.put, z.v, z.re, z.b, z.e]),
 .v (.bool false),
 .v (.bool true),
 .v (.bool true)]

set_option maxRecDepth 100000 in
set_option maxHeartbeats 4000000 in
theorem sinOrder_any (l : List Ev) (A : Option Addr) (n cap : Nat) (w00 : World) (h0 : EvsR w00 A n l) (hn : n ≤ 1048576) :
  Calls Tryz.prog 11 #[.slice A n cap] w00 (RetBelow (.bool (inOrder l)) w00) := by
 have HL := Lib.hid h0.1
 go_enter Tryz.func11, Tryz.ntmps11
 go_wp2_with fail
 refine (sstory_any l A n cap _ h0 hn).mono ?_
 rintro e wa ⟨rfl, hBa⟩
 have ha := h0.below hBa
 cases hok : storyOk l
 ·
  have HR := Lib.hid (show inOrder l = false by unfold inOrder; rw [hok]; rfl)
  go_wp2
  go_ret
  exact .mk (congrArg Value.bool HR.out.symm) hBa
 go_wp2_with fail
 refine (stwice_any l A n cap _ ha hn).mono ?_
 rintro e w0 ⟨rfl, hBb⟩
 have h := ha.below hBb
 replace hBa := bstep hBa hBa.size hBb
 clear ha hBb
 cases htw : twiceB l
 case true =>
  have HR := Lib.hid (show inOrder l = true by unfold inOrder; rw [hok, htw]; rfl)
  go_wp2
  go_ret
  exact .mk (congrArg Value.bool HR.out.symm) hBa
 have HE := Lib.hid (show inOrder l = l.all (fun x => l.all fun y => !(x.re == 1 && y.re == 1 && decide (x.e < y.b)) || l.all fun z => !(z.re == 4 && z.v == y.v) || gotB l x.v z) by unfold inOrder; rw [hok, htw]; rfl)
 clear hok htw
 go_wp2
 go_loopw [3] (fun s3 W => ∃ i : Nat, i ≤ n ∧ s3 = .int .i64 i ∧ Below w0.heap.size w0 W ∧ (l.take i).all (fun x => l.all fun y => !(x.re == 1 && y.re == 1 && decide (x.e < y.b)) || l.all fun z => !(z.re == 4 && z.v == y.v) || gotB l x.v z) = true) (fun s3 _ => n - (intOf s3).toNat)
 case atStart => exact ⟨0, Nat.zero_le _, rfl, Below.refl _ _, rfl⟩
 case round =>
  obtain ⟨i, hin, rfl, hB, hal⟩ := hrel
  have hr : EvsR wr A n l := SlE.keep EvE.kept h (fun j _ hj => hB.block j hj)
  have HAL := Lib.hid hal; clear hal
  by_cases hlt : i < n
  ·
   obtain ⟨b, o, x, rfl, hx⟩ := evs_some hr hlt
   have HX_i := Lib.hid hx; clear hx
   have lo_i : (0 : Int) ≤ (i : Int) := by omega
   have hi_i : (i : Int) < (n : Int) := by omega
   have hN_i := hlt
   have hl := hr
   go_wp2
   go_loopw [4] (fun s4 W => ∃ k : Nat, k ≤ n ∧ s4 = .int .i64 k ∧ Below w0.heap.size w0 W ∧ (l.take k).all (fun y => !(x.re == 1 && y.re == 1 && decide (x.e < y.b)) || l.all fun z => !(z.re == 4 && z.v == y.v) || gotB l x.v z) = true) (fun s4 _ => n - (intOf s4).toNat)
   case atStart => exact ⟨0, Nat.zero_le _, rfl, hB, rfl⟩
   case round =>
    clear hB hl hr
    obtain ⟨k, hkn, rfl, hB, hak⟩ := hrel
    have hr : EvsR wr (some ⟨b, o, none⟩) n l := SlE.keep EvE.kept h (fun j _ hj => hB.block j hj)
    have HAK := Lib.hid hak; clear hak
    by_cases hkt : k < n
    ·
     obtain ⟨y, hy⟩ := evs_get hr hkt
     have HX_k := Lib.hid hy; clear hy
     have lo_k : (0 : Int) ≤ (k : Int) := by omega
     have hi_k : (k : Int) < (n : Int) := by omega
     have hN_k := hkt
     have hl := hr
     obtain ⟨b_, h1⟩ : ∃ b_, (x.re == 1) = b_ := ⟨_, rfl⟩
     cases b_
     ·
      have HA := Lib.hid (show (x.re != 1) = true by simp [bne, h1])
      have HQ := Lib.hid (show (fun y => !(x.re == 1 && y.re == 1 && decide (x.e < y.b)) || l.all fun z => !(z.re == 4 && z.v == y.v) || gotB l x.v z) y = true by simp only [h1, Bool.false_and, Bool.not_false, Bool.true_or])
      clear h1
      obtain ⟨i0_, i1_, i2_, i3_, i4_, i5_⟩ := ev_at hl hN_i HX_i.out
      obtain ⟨k0_, k1_, k2_, k3_, k4_, k5_⟩ := ev_at hl hN_k HX_k.out
      have qf0 := HA.out
      exact zfacV6
     obtain ⟨b_, h2⟩ : ∃ b_, (y.re == 1) = b_ := ⟨_, rfl⟩
     cases b_
     ·
      have HA := Lib.hid (show (x.re != 1) = false by simp [bne, h1])
      have HV := Lib.hid (show (y.re != 1) = true by simp [bne, h2])
      have HQ := Lib.hid (show (fun y => !(x.re == 1 && y.re == 1 && decide (x.e < y.b)) || l.all fun z => !(z.re == 4 && z.v == y.v) || gotB l x.v z) y = true by simp only [h2, Bool.false_and, Bool.and_false, Bool.not_false, Bool.true_or])
      clear h1 h2
      obtain ⟨i0_, i1_, i2_, i3_, i4_, i5_⟩ := ev_at hl hN_i HX_i.out
      obtain ⟨k0_, k1_, k2_, k3_, k4_, k5_⟩ := ev_at hl hN_k HX_k.out
      have qf0 := HA.out
      have qf1 := HV.out
      exact zfacV6
     obtain ⟨b_, h3⟩ : ∃ b_, (decide (x.e < y.b)) = b_ := ⟨_, rfl⟩
     cases b_
     ·
      have HA := Lib.hid (show (x.re != 1) = false by simp [bne, h1])
      have HV := Lib.hid (show (y.re != 1) = false by simp [bne, h2])
      have HT := Lib.hid h3
      have HQ := Lib.hid (show (fun y => !(x.re == 1 && y.re == 1 && decide (x.e < y.b)) || l.all fun z => !(z.re == 4 && z.v == y.v) || gotB l x.v z) y = true by simp only [h3, Bool.and_false, Bool.not_false, Bool.true_or])
      clear h1 h2 h3
      go_wp2_with fail
      refine wp_region2v (fun w w' => Below w.heap.size w w') (fun _ _ h => h.size) (fun _ => Below.refl _ _) (fun L W' => Below w0.heap.size w0 W' ∧ EvsR W' (some ⟨b, o, none⟩) n l) (ioCV l x y x0 x0 b o n cap i k 0 0 w0) (fun _ => 0) [] (by kernel_rfl) (by kernel_rfl) ?_ ?_ ?_
       (.still rfl ?a0 <| .still rfl ?a1 <| .still rfl ?a2 <| .still rfl ?a3 <| .still rfl ?a4 <| .still rfl ?a5 <| .still rfl ?a6 <| .still rfl ?a7 <| .still rfl ?a8 <| .still rfl ?a9 <| .still rfl ?a10 <| .still rfl ?a11 <| .still rfl ?a12 <| .still rfl ?a13 <| .still rfl ?a14 <| .still rfl ?a15 <| .still rfl ?a16 <| .still rfl ?a17 <| .still rfl ?a18 <| .still rfl ?a19 <| .still rfl ?a20 <| .still rfl ?a21 <| .still rfl ?a22 <| .grow rfl ?a23 <| .still rfl ?a24 <| .still rfl ?a25 <| .nil) ?_ ?_
      · exact trivial
      · exact trivial
      · exact ⟨hB.drew, hl⟩
      case a0 | a1 | a3 | a6 | a7 | a8 | a10 | a13 | a14 | a15 | a16 | a19 | a20 | a24 | a25 =>
       go_light
       intro L σ W' hcl hL hC hw
       try have e2 := wT hw 2 rfl
       try have e5 := wT hw 5 rfl
       try have e6 := wT hw 6 rfl
       try have e9 := wT hw 9 rfl
       try have e12 := wT hw 12 rfl
       try have e13 := wT hw 13 rfl
       try have e14 := wT hw 14 rfl
       try have e23 := wT hw 23 rfl
       try have e24 := wT hw 24 rfl
       exact zfacV0
      case a4 | a18 =>
       go_light
       intro L σ W' hcl hL hC hw
       try have e3 := wT hw 3 rfl
       try have e14 := wT hw 14 rfl
       try have e17 := wT hw 17 rfl
       obtain ⟨c0, c1, c2, c3, c4, c5⟩ := ev_at hC.2 hN_i HX_i.out
       exact zfacV0
      case a11 | a22 =>
       go_light
       intro L σ W' hcl hL hC hw
       try have e6 := wT hw 6 rfl
       try have e10 := wT hw 10 rfl
       try have e14 := wT hw 14 rfl
       try have e21 := wT hw 21 rfl
       obtain ⟨c0, c1, c2, c3, c4, c5⟩ := ev_at hC.2 hN_k HX_k.out
       exact zfacV0
      case a2 =>
       go_light
       intro L σ W' hcl hL hC hw
       have e0 := wV hw 0 rfl
       have e1 := wV hw 1 rfl
       have g1 := lo_i
       have g2 := hi_i
       exact zfacV0
      case a5 =>
       go_light
       intro L σ W' hcl hL hC hw
       have e4 := wV hw 4 rfl
       have q0 := HA.out
       exact zfacV0
      case a9 =>
       go_light
       intro L σ W' hcl hL hC hw
       have e6 := wV hw 6 rfl
       have e7 := wV hw 7 rfl
       have e8 := wV hw 8 rfl
       have g1 := lo_k
       have g2 := hi_k
       exact zfacV0
      case a12 =>
       go_light
       intro L σ W' hcl hL hC hw
       have e6 := wV hw 6 rfl
       have e11 := wV hw 11 rfl
       have q0 := HV.out
       exact zfacV0
      case a17 =>
       go_light
       intro L σ W' hcl hL hC hw
       have e14 := wV hw 14 rfl
       have e15 := wV hw 15 rfl
       have e16 := wV hw 16 rfl
       have g1 := lo_i
       have g2 := hi_i
       exact zfacV0
      case a21 =>
       go_light
       intro L σ W' hcl hL hC hw
       have e14 := wV hw 14 rfl
       have e19 := wV hw 19 rfl
       have e20 := wV hw 20 rfl
       have g1 := lo_k
       have g2 := hi_k
       exact zfacV0
      case a23 =>
       exact zfacV4
      ·
       intro L L' W' hLL hC
       obtain ⟨hB, hl⟩ := hC
       exact ⟨hB, hl⟩
      ·
       intro σ L W' hall hC hRR
       obtain ⟨hB, hl⟩ := hC
       have e25 := dV hRR 25 rfl
       clear hRR
       simp only [lexAll]
       go_simp
       go_step
       exact zfacV9
     ·
      have HA := Lib.hid (show (x.re != 1) = false by simp [bne, h1])
      have HV := Lib.hid (show (y.re != 1) = false by simp [bne, h2])
      have HT := Lib.hid h3
      have HXY := Lib.hid (show (x.re == 1 && y.re == 1 && decide (x.e < y.b)) = true by simp only [h1, h2, h3, Bool.and_self])
      clear h1 h2 h3
      go_wp2_with fail
      refine wp_region2v (fun w w' => Below w.heap.size w w') (fun _ _ h => h.size) (fun _ => Below.refl _ _) (fun L W' => Below w0.heap.size w0 W' ∧ EvsR W' (some ⟨b, o, none⟩) n l) (ioDV l x y x0 x0 b o n cap i k 0 0 w0) (fun _ => 0) [] (by kernel_rfl) (by kernel_rfl) ?_ ?_ ?_
       (.still rfl ?a0 <| .still rfl ?a1 <| .still rfl ?a2 <| .still rfl ?a3 <| .still rfl ?a4 <| .still rfl ?a5 <| .still rfl ?a6 <| .still rfl ?a7 <| .still rfl ?a8 <| .still rfl ?a9 <| .still rfl ?a10 <| .still rfl ?a11 <| .still rfl ?a12 <| .still rfl ?a13 <| .still rfl ?a14 <| .still rfl ?a15 <| .still rfl ?a16 <| .still rfl ?a17 <| .still rfl ?a18 <| .still rfl ?a19 <| .still rfl ?a20 <| .still rfl ?a21 <| .still rfl ?a22 <| .grow rfl ?a23 <| .still rfl ?a24 <| .still rfl ?a25 <| .nil) ?_ ?_
      · exact trivial
      · exact trivial
      · exact ⟨hB.drew, hl⟩
      case a0 | a1 | a3 | a6 | a7 | a8 | a10 | a13 | a14 | a15 | a16 | a19 | a20 | a24 | a25 =>
       go_light
       intro L σ W' hcl hL hC hw
       try have e2 := wT hw 2 rfl
       try have e5 := wT hw 5 rfl
       try have e6 := wT hw 6 rfl
       try have e9 := wT hw 9 rfl
       try have e12 := wT hw 12 rfl
       try have e13 := wT hw 13 rfl
       try have e14 := wT hw 14 rfl
       try have e23 := wT hw 23 rfl
       try have e24 := wT hw 24 rfl
       exact zfacV0
      case a4 | a18 =>
       go_light
       intro L σ W' hcl hL hC hw
       try have e3 := wT hw 3 rfl
       try have e14 := wT hw 14 rfl
       try have e17 := wT hw 17 rfl
       obtain ⟨c0, c1, c2, c3, c4, c5⟩ := ev_at hC.2 hN_i HX_i.out
       exact zfacV0
      case a11 | a22 =>
       go_light
       intro L σ W' hcl hL hC hw
       try have e6 := wT hw 6 rfl
       try have e10 := wT hw 10 rfl
       try have e14 := wT hw 14 rfl
       try have e21 := wT hw 21 rfl
       obtain ⟨c0, c1, c2, c3, c4, c5⟩ := ev_at hC.2 hN_k HX_k.out
       exact zfacV0
      case a2 =>
       go_light
       intro L σ W' hcl hL hC hw
       have e0 := wV hw 0 rfl
       have e1 := wV hw 1 rfl
       have g1 := lo_i
       have g2 := hi_i
       exact zfacV0
      case a5 =>
       go_light
       intro L σ W' hcl hL hC hw
       have e4 := wV hw 4 rfl
       have q0 := HA.out
       exact zfacV0
      case a9 =>
       go_light
       intro L σ W' hcl hL hC hw
       have e6 := wV hw 6 rfl
       have e7 := wV hw 7 rfl
       have e8 := wV hw 8 rfl
       have g1 := lo_k
       have g2 := hi_k
       exact zfacV0
      case a12 =>
       go_light
       intro L σ W' hcl hL hC hw
       have e6 := wV hw 6 rfl
       have e11 := wV hw 11 rfl
       have q0 := HV.out
       exact zfacV0
      case a17 =>
       go_light
       intro L σ W' hcl hL hC hw
       have e14 := wV hw 14 rfl
       have e15 := wV hw 15 rfl
       have e16 := wV hw 16 rfl
       have g1 := lo_i
       have g2 := hi_i
       exact zfacV0
      case a21 =>
       go_light
       intro L σ W' hcl hL hC hw
       have e14 := wV hw 14 rfl
       have e19 := wV hw 19 rfl
       have e20 := wV hw 20 rfl
       have g1 := lo_k
       have g2 := hi_k
       exact zfacV0
      case a23 =>
       exact zfacV4
      ·
       intro L L' W' hLL hC
       obtain ⟨hB, hl⟩ := hC
       exact ⟨hB, hl⟩
      ·
       intro σ L W' hall hC hRR
       obtain ⟨hB, hl⟩ := hC
       have e25 := dV hRR 25 rfl
       clear hRR
       simp only [lexAll]
       go_simp
       go_step
       go_wp2
       go_loopw [5] (fun s5 W => ∃ j : Nat, j ≤ n ∧ s5 = .int .i64 j ∧ Below w0.heap.size w0 W ∧ (l.take j).all (fun z => !(z.re == 4 && z.v == y.v) || gotB l x.v z) = true) (fun s5 _ => n - (intOf s5).toNat)
       case atStart => exact ⟨0, Nat.zero_le _, rfl, hB, rfl⟩
       case round =>
        obtain ⟨j, hjn, rfl, hB, haj⟩ := hrel
        have hr : EvsR wr (some ⟨b, o, none⟩) n l := SlE.keep EvE.kept h (fun j _ hj => hB.block j hj)
        have HAJ := Lib.hid haj; clear haj
        by_cases hjt : j < n
        ·
         obtain ⟨z, hz⟩ := evs_get hr hjt
         have HX_j := Lib.hid hz; clear hz
         have lo_j : (0 : Int) ≤ (j : Int) := by omega
         have hi_j : (j : Int) < (n : Int) := by omega
         have hN_j := hjt
         have hl := hr
         obtain ⟨b_, h1⟩ : ∃ b_, (z.re == 4) = b_ := ⟨_, rfl⟩
         cases b_
         ·
          have HZ := Lib.hid h1
          have HQ := Lib.hid (show (fun z => !(z.re == 4 && z.v == y.v) || gotB l x.v z) z = true by simp only [h1, Bool.false_and, Bool.not_false, Bool.true_or])
          clear h1
          obtain ⟨i0_, i1_, i2_, i3_, i4_, i5_⟩ := ev_at hl hN_i HX_i.out
          obtain ⟨k0_, k1_, k2_, k3_, k4_, k5_⟩ := ev_at hl hN_k HX_k.out
          obtain ⟨j0_, j1_, j2_, j3_, j4_, j5_⟩ := ev_at hl hN_j HX_j.out
          have qf0 := HZ.out
          exact zfacV7
         obtain ⟨b_, h2⟩ : ∃ b_, (z.v == y.v) = b_ := ⟨_, rfl⟩
         cases b_
         ·
          have HZ := Lib.hid h1
          have HW := Lib.hid h2
          have HQ := Lib.hid (show (fun z => !(z.re == 4 && z.v == y.v) || gotB l x.v z) z = true by simp only [h2, Bool.and_false, Bool.not_false, Bool.true_or])
          clear h1 h2
          obtain ⟨i0_, i1_, i2_, i3_, i4_, i5_⟩ := ev_at hl hN_i HX_i.out
          obtain ⟨k0_, k1_, k2_, k3_, k4_, k5_⟩ := ev_at hl hN_k HX_k.out
          obtain ⟨j0_, j1_, j2_, j3_, j4_, j5_⟩ := ev_at hl hN_j HX_j.out
          have qf0 := HZ.out
          have qf1 := HW.out
          exact zfacV7
         obtain ⟨b_, h4⟩ : ∃ b_, (gotB l x.v z) = b_ := ⟨_, rfl⟩
         cases b_
         ·
          have HZ := Lib.hid h1
          have HW := Lib.hid h2
          have HG := Lib.hid h4
          have HR := Lib.hid (show inOrder l = false by
           rw [HE.out]
           have q3 : (fun z => !(z.re == 4 && z.v == y.v) || gotB l x.v z) z = false := by simp only [h1, h2, h4, Bool.and_self, Bool.not_true, Bool.or_self]
           have q2 : (fun y => !(x.re == 1 && y.re == 1 && decide (x.e < y.b)) || l.all fun z => !(z.re == 4 && z.v == y.v) || gotB l x.v z) y = false := by
            simp only [HXY.out, Bool.not_true, Bool.false_or]
            exact all_no (p := (fun z => !(z.re == 4 && z.v == y.v) || gotB l x.v z)) HX_j.out q3
           exact all_no (p := (fun x => l.all fun y => !(x.re == 1 && y.re == 1 && decide (x.e < y.b)) || l.all fun z => !(z.re == 4 && z.v == y.v) || gotB l x.v z)) HX_i.out (all_no (p := (fun y => !(x.re == 1 && y.re == 1 && decide (x.e < y.b)) || l.all fun z => !(z.re == 4 && z.v == y.v) || gotB l x.v z)) HX_k.out q2))
          clear h1 h2 h4
          go_wp2_with fail
          refine wp_region2v (fun w w' => Below w.heap.size w w') (fun _ _ h => h.size) (fun _ => Below.refl _ _) (fun L W' => Below w0.heap.size w0 W' ∧ EvsR W' (some ⟨b, o, none⟩) n l) (ioHV l x y z x0 b o n cap i k j 0 w0) (fun _ => 0) [] (by kernel_rfl) (by kernel_rfl) ?_ ?_ ?_
           (.still rfl ?a0 <| .still rfl ?a1 <| .still rfl ?a2 <| .still rfl ?a3 <| .still rfl ?a4 <| .still rfl ?a5 <| .still rfl ?a6 <| .still rfl ?a7 <| .still rfl ?a8 <| .still rfl ?a9 <| .still rfl ?a10 <| .still rfl ?a11 <| .still rfl ?a12 <| .still rfl ?a13 <| .still rfl ?a14 <| .still rfl ?a15 <| .still rfl ?a16 <| .still rfl ?a17 <| .still rfl ?a18 <| .still rfl ?a19 <| .still rfl ?a20 <| .still rfl ?a21 <| .still rfl ?a22 <| .still rfl ?a23 <| .still rfl ?a24 <| .still rfl ?a25 <| .still rfl ?a26 <| .still rfl ?a27 <| .still rfl ?a28 <| .still rfl ?a29 <| .grow rfl ?a30 <| .still rfl ?a31 <| .still rfl ?a32 <| .nil) ?_ ?_
          · exact trivial
          · exact trivial
          · exact ⟨hB.drew, hl⟩
          case a0 | a1 | a3 | a6 | a7 | a8 | a10 | a12 | a13 | a15 | a18 | a19 | a20 | a21 | a22 | a24 | a26 | a27 | a31 | a32 =>
           go_light
           intro L σ W' hcl hL hC hw
           try have e2 := wT hw 2 rfl
           try have e5 := wT hw 5 rfl
           try have e6 := wT hw 6 rfl
           try have e9 := wT hw 9 rfl
           try have e14 := wT hw 14 rfl
           try have e17 := wT hw 17 rfl
           try have e18 := wT hw 18 rfl
           try have e19 := wT hw 19 rfl
           try have e23 := wT hw 23 rfl
           try have e30 := wT hw 30 rfl
           try have e31 := wT hw 31 rfl
           exact zfacV0
          case a4 | a11 | a29 =>
           go_light
           intro L σ W' hcl hL hC hw
           try have e3 := wT hw 3 rfl
           try have e6 := wT hw 6 rfl
           try have e10 := wT hw 10 rfl
           try have e19 := wT hw 19 rfl
           try have e28 := wT hw 28 rfl
           obtain ⟨c0, c1, c2, c3, c4, c5⟩ := ev_at hC.2 hN_j HX_j.out
           exact zfacV0
          case a16 =>
           go_light
           intro L σ W' hcl hL hC hw
           have e6 := wV hw 6 rfl
           have e15 := wV hw 15 rfl
           obtain ⟨c0, c1, c2, c3, c4, c5⟩ := ev_at hC.2 hN_k HX_k.out
           exact zfacV0
          case a25 =>
           go_light
           intro L σ W' hcl hL hC hw
           have e19 := wV hw 19 rfl
           have e24 := wV hw 24 rfl
           obtain ⟨c0, c1, c2, c3, c4, c5⟩ := ev_at hC.2 hN_i HX_i.out
           exact zfacV0
          case a2 =>
           go_light
           intro L σ W' hcl hL hC hw
           have e0 := wV hw 0 rfl
           have e1 := wV hw 1 rfl
           have g1 := lo_j
           have g2 := hi_j
           exact zfacV0
          case a5 =>
           go_light
           intro L σ W' hcl hL hC hw
           have e4 := wV hw 4 rfl
           have q0 := HZ.out
           exact zfacV0
          case a9 =>
           go_light
           intro L σ W' hcl hL hC hw
           have e6 := wV hw 6 rfl
           have e7 := wV hw 7 rfl
           have e8 := wV hw 8 rfl
           have g1 := lo_j
           have g2 := hi_j
           exact zfacV0
          case a14 =>
           go_light
           intro L σ W' hcl hL hC hw
           have e6 := wV hw 6 rfl
           have e12 := wV hw 12 rfl
           have e13 := wV hw 13 rfl
           have g1 := lo_k
           have g2 := hi_k
           exact zfacV0
          case a17 =>
           go_light
           intro L σ W' hcl hL hC hw
           have e6 := wV hw 6 rfl
           have e11 := wV hw 11 rfl
           have e16 := wV hw 16 rfl
           have q0 := HW.out
           exact zfacV0
          case a23 =>
           go_light
           intro L σ W' hcl hL hC hw
           have e19 := wV hw 19 rfl
           have e21 := wV hw 21 rfl
           have e22 := wV hw 22 rfl
           have g1 := lo_i
           have g2 := hi_i
           exact zfacV0
          case a28 =>
           go_light
           intro L σ W' hcl hL hC hw
           have e19 := wV hw 19 rfl
           have e26 := wV hw 26 rfl
           have e27 := wV hw 27 rfl
           have g1 := lo_j
           have g2 := hi_j
           exact zfacV0
          case a30 =>
           exact zfacV2
          ·
           intro L L' W' hLL hC
           obtain ⟨hB, hl⟩ := hC
           exact ⟨hB, hl⟩
          ·
           intro σ L W' hall hC hRR
           obtain ⟨hB, hl⟩ := hC
           have e32 := dV hRR 32 rfl
           exact zfacV10
         ·
          have HZ := Lib.hid h1
          have HW := Lib.hid h2
          have HG := Lib.hid h4
          have HQ := Lib.hid (show (fun z => !(z.re == 4 && z.v == y.v) || gotB l x.v z) z = true by simp only [h4, Bool.or_true])
          clear h1 h2 h4
          go_wp2_with fail
          refine wp_region2v (fun w w' => Below w.heap.size w w') (fun _ _ h => h.size) (fun _ => Below.refl _ _) (fun L W' => Below w0.heap.size w0 W' ∧ EvsR W' (some ⟨b, o, none⟩) n l) (ioGV l x y z x0 b o n cap i k j 0 w0) (fun _ => 0) [] (by kernel_rfl) (by kernel_rfl) ?_ ?_ ?_
           (.still rfl ?a0 <| .still rfl ?a1 <| .still rfl ?a2 <| .still rfl ?a3 <| .still rfl ?a4 <| .still rfl ?a5 <| .still rfl ?a6 <| .still rfl ?a7 <| .still rfl ?a8 <| .still rfl ?a9 <| .still rfl ?a10 <| .still rfl ?a11 <| .still rfl ?a12 <| .still rfl ?a13 <| .still rfl ?a14 <| .still rfl ?a15 <| .still rfl ?a16 <| .still rfl ?a17 <| .still rfl ?a18 <| .still rfl ?a19 <| .still rfl ?a20 <| .still rfl ?a21 <| .still rfl ?a22 <| .still rfl ?a23 <| .still rfl ?a24 <| .still rfl ?a25 <| .still rfl ?a26 <| .still rfl ?a27 <| .still rfl ?a28 <| .still rfl ?a29 <| .grow rfl ?a30 <| .still rfl ?a31 <| .still rfl ?a32 <| .nil) ?_ ?_
          · exact trivial
          · exact trivial
          · exact ⟨hB.drew, hl⟩
          case a0 | a1 | a3 | a6 | a7 | a8 | a10 | a12 | a13 | a15 | a18 | a19 | a20 | a21 | a22 | a24 | a26 | a27 | a31 | a32 =>
           go_light
           intro L σ W' hcl hL hC hw
           try have e2 := wT hw 2 rfl
           try have e5 := wT hw 5 rfl
           try have e6 := wT hw 6 rfl
           try have e9 := wT hw 9 rfl
           try have e14 := wT hw 14 rfl
           try have e17 := wT hw 17 rfl
           try have e18 := wT hw 18 rfl
           try have e19 := wT hw 19 rfl
           try have e23 := wT hw 23 rfl
           try have e30 := wT hw 30 rfl
           try have e31 := wT hw 31 rfl
           exact zfacV0
          case a4 | a11 | a29 =>
           go_light
           intro L σ W' hcl hL hC hw
           try have e3 := wT hw 3 rfl
           try have e6 := wT hw 6 rfl
           try have e10 := wT hw 10 rfl
           try have e19 := wT hw 19 rfl
           try have e28 := wT hw 28 rfl
           obtain ⟨c0, c1, c2, c3, c4, c5⟩ := ev_at hC.2 hN_j HX_j.out
           exact zfacV0
          case a16 =>
           go_light
           intro L σ W' hcl hL hC hw
           have e6 := wV hw 6 rfl
           have e15 := wV hw 15 rfl
           obtain ⟨c0, c1, c2, c3, c4, c5⟩ := ev_at hC.2 hN_k HX_k.out
           exact zfacV0
          case a25 =>
           go_light
           intro L σ W' hcl hL hC hw
           have e19 := wV hw 19 rfl
           have e24 := wV hw 24 rfl
           obtain ⟨c0, c1, c2, c3, c4, c5⟩ := ev_at hC.2 hN_i HX_i.out
           exact zfacV0
          case a2 =>
           go_light
           intro L σ W' hcl hL hC hw
           have e0 := wV hw 0 rfl
           have e1 := wV hw 1 rfl
           have g1 := lo_j
           have g2 := hi_j
           exact zfacV0
          case a5 =>
           go_light
           intro L σ W' hcl hL hC hw
           have e4 := wV hw 4 rfl
           have q0 := HZ.out
           exact zfacV0
          case a9 =>
           go_light
           intro L σ W' hcl hL hC hw
           have e6 := wV hw 6 rfl
           have e7 := wV hw 7 rfl
           have e8 := wV hw 8 rfl
           have g1 := lo_j
           have g2 := hi_j
           exact zfacV0
          case a14 =>
           go_light
           intro L σ W' hcl hL hC hw
           have e6 := wV hw 6 rfl
           have e12 := wV hw 12 rfl
           have e13 := wV hw 13 rfl
           have g1 := lo_k
           have g2 := hi_k
           exact zfacV0
          case a17 =>
           go_light
           intro L σ W' hcl hL hC hw
           have e6 := wV hw 6 rfl
           have e11 := wV hw 11 rfl
           have e16 := wV hw 16 rfl
           have q0 := HW.out
           exact zfacV0
          case a23 =>
           go_light
           intro L σ W' hcl hL hC hw
           have e19 := wV hw 19 rfl
           have e21 := wV hw 21 rfl
           have e22 := wV hw 22 rfl
           have g1 := lo_i
           have g2 := hi_i
           exact zfacV0
          case a28 =>
           go_light
           intro L σ W' hcl hL hC hw
           have e19 := wV hw 19 rfl
           have e26 := wV hw 26 rfl
           have e27 := wV hw 27 rfl
           have g1 := lo_j
           have g2 := hi_j
           exact zfacV0
          case a30 =>
           exact zfacV2
          ·
           intro L L' W' hLL hC
           obtain ⟨hB, hl⟩ := hC
           exact ⟨hB, hl⟩
          ·
           intro σ L W' hall hC hRR
           obtain ⟨hB, hl⟩ := hC
           have e32 := dV hRR 32 rfl
           clear hRR
           simp only [lexAll]
           go_simp
           go_step
           go_wp2
           go_roundw
           case rel => exact ⟨j + 1, by omega, by go_num, hB, all_to (p := (fun z => !(z.re == 4 && z.v == y.v) || gotB l x.v z)) HX_j.out HAJ.out HQ.out⟩
           case measure => simp [intOf]; omega
        ·
         have j1 : ¬ (j : Int) < (n : Int) := by omega
         obtain rfl : n = j := by omega
         have HQ := Lib.hid (show (fun y => !(x.re == 1 && y.re == 1 && decide (x.e < y.b)) || l.all fun z => !(z.re == 4 && z.v == y.v) || gotB l x.v z) y = true by
          have h3 : l.all (fun z => !(z.re == 4 && z.v == y.v) || gotB l x.v z) = true := by have := HAJ.out; rw [← HL.out] at this; exact all_end this
          simp only [h3, Bool.or_true])
         exact zfacV9
    ·
     have k1 : ¬ (k : Int) < (n : Int) := by omega
     obtain rfl : n = k := by omega
     have HQ := Lib.hid (show (fun x => l.all fun y => !(x.re == 1 && y.re == 1 && decide (x.e < y.b)) || l.all fun z => !(z.re == 4 && z.v == y.v) || gotB l x.v z) x = true by have := HAK.out; rw [← HL.out] at this; exact all_end this)
     go_wp2
     go_roundw
     case rel => exact ⟨i + 1, by omega, by go_num, hB, all_to (p := (fun x => l.all fun y => !(x.re == 1 && y.re == 1 && decide (x.e < y.b)) || l.all fun z => !(z.re == 4 && z.v == y.v) || gotB l x.v z)) HX_i.out HAL.out HQ.out⟩
     case measure => simp [intOf]; omega
  ·
   have g1 : ¬ (i : Int) < (n : Int) := by omega
   obtain rfl : n = i := by omega
   have HV := Lib.hid (show inOrder l = true by
    rw [HE.out]; have := HAL.out; rw [← HL.out] at this; exact all_end this)
   go_wp2
   go_ret
   exact .mk (congrArg Value.bool HV.out.symm) (bstep hBa hBa.size hB)

end Go.Proofs.YtiiaimjlohpemaaGreat

/-
 The model's EmptyHeld.
-/
namespace Go.Proofs.YtiiaimjlohpemaaGreat
set_option linter.unusedSimpArgs false
set_option linter.unusedVariables false
open Go.RowKit
set_option linter.unusedVariables false
attribute [local go_sem] OpUpon
attribute [local go_sem ↓] Go.wp_at_zero Go.wp_at_succ

def ehCV (l : List Ev) (x y z q : Ev) (b o n cap i k j BX : Nat) (w0 : World) : List Sl := [.v (.slice (some ⟨b, o, none⟩) n cap),
 .v (.int .i64 ((i : Int))),
 .v (.pointer (some ⟨b, o + i * 6, none⟩)),
 .v (.pointer (some ⟨b, o + i * 6 + 3, none⟩)),
 .v x.re,
 .v (.bool true),
 .v (.bool true),
 .v (.slice (some ⟨b, o, none⟩) n cap),
 .v (.int .i64 ((k : Int))),
 .v (.pointer (some ⟨b, o + k * 6, none⟩)),
 .v (.pointer (some ⟨b, o + k * 6 + 3, none⟩)),
 .v y.re,
 .v (.bool true),
 .v (.bool true),
 .v (.bool true),
 .v (.slice (some ⟨b, o, none⟩) n cap),
 .v (.int .i64 ((k : Int))),
 .v (.pointer (some ⟨b, o + k * 6, none⟩)),
 .v (.agg #[y.who, y.put, y.v, y.re, y.b, y.e]),
 .v (.slice (some ⟨b, o, none⟩) n cap),
 .v (.int .i64 ((i : Int))),
 .v (.pointer (some ⟨b, o + i * 6, none⟩)),
 .v (.agg #[x.who, x.put, x.v, x.re, x.b, x.e]),
 .v (.bool false),
 .v (.bool false),
 .v (.bool false),
 .v undef,
 .v undef,
 .v undef,
 .v undef,
 .v undef,
 .v undef,
 .v undef,
 .v undef,
 .v undef,
 .v undef,
 .v undef,
 .v undef,
 .v (.bool false)]

def ehDV (l : List Ev) (x y z q : Ev) (b o n cap i k j BX : Nat) (w0 : World) : List Sl := [.v (.slice (some ⟨b, o, none⟩) n cap),
 .v (.int .i64 ((i : Int))),
 .v (.pointer (some ⟨b, o + i * 6, none⟩)),
 .v (.pointer (some ⟨b, o + i * 6 + 3, none⟩)),
 .v x.re,
 .v (.bool true),
 .v (.bool true),
 .v (.slice (some ⟨b, o, none⟩) n cap),
 .v (.int .i64 ((k : Int))),
 .v (.pointer (some ⟨b, o + k * 6, none⟩)),
 .v (.pointer (some ⟨b, o + k * 6 + 3, none⟩)),
 .v y.re,
 .v (.bool true),
 .v (.bool true),
 .v (.bool true),
 .v (.slice (some ⟨b, o, none⟩) n cap),
 .v (.int .i64 ((k : Int))),
 .v (.pointer (some ⟨b, o + k * 6, none⟩)),
 .v (.agg #[y.who, y.put, y.v, y.re, y.b, y.e]),
 .v (.slice (some ⟨b, o, none⟩) n cap),
 .v (.int .i64 ((i : Int))),
 .v (.pointer (some ⟨b, o + i * 6, none⟩)),
 .v (.agg #[x.who, x.put, x.v, x.re, x.b, x.e]),
 .v (.bool true),
 .v (.bool true),
 .v (.bool true),
 .v (.slice (some ⟨b, o, none⟩) n cap),
 .v (.slice (some ⟨b, o, none⟩) n cap),
 .v (.int .i64 ((k : Int))),
 .v (.pointer (some ⟨b, o + k * 6, none⟩)),
 .v (.pointer (some ⟨b, o + k * 6 + 2, none⟩)),
 .v y.v,
 .v (.slice (some ⟨b, o, none⟩) n cap),
 .v (.int .i64 ((i : Int))),
 .v (.pointer (some ⟨b, o + i * 6, none⟩)),
 .v (.agg #[x.who, x.put, x.v, x.re, x.b, x.e]),
 .v (.bool true),
 .v (.bool false),
 .v (.bool false)]

def ehEV (l : List Ev) (x y z q : Ev) (b o n cap i k j BX : Nat) (w0 : World) : List Sl := [.v (.slice (some ⟨b, o, none⟩) n cap),
 .v (.int .i64 ((i : Int))),
 .v (.pointer (some ⟨b, o + i * 6, none⟩)),
 .v (.pointer (some ⟨b, o + i * 6 + 3, none⟩)),
 .v x.re,
 .v (.bool true),
 .v (.bool true),
 .v (.slice (some ⟨b, o, none⟩) n cap),
 .v (.int .i64 ((k : Int))),
 .v (.pointer (some ⟨b, o + k * 6, none⟩)),
 .v (.pointer (some ⟨b, o + k * 6 + 3, none⟩)),
 .v y.re,
 .v (.bool true),
 .v (.bool true),
 .v (.bool true),
 .v (.slice (some ⟨b, o, none⟩) n cap),
 .v (.int .i64 ((k : Int))),
 .v (.pointer (some ⟨b, o + k * 6, none⟩)),
 .v (.agg #[y.who, y.put, y.v, y.re, y.b, y.e]),
 .v (.slice (some ⟨b, o, none⟩) n cap),
 .v (.int .i64 ((i : Int))),
 .v (.pointer (some ⟨b, o + i * 6, none⟩)),
 .v (.agg #[x.who, x.put, x.v, x.re, x.b, x.e]),
 .v (.bool true),
 .v (.bool true),
 .v (.bool true),
 .v (.slice (some ⟨b, o, none⟩) n cap),
 .v (.slice (some ⟨b, o, none⟩) n cap),
 .v (.int .i64 ((k : Int))),
 .v (.pointer (some ⟨b, o + k * 6, none⟩)),
 .v (.pointer (some ⟨b, o + k * 6 + 2, none⟩)),
 .v y.v,
 .v (.slice (some ⟨b, o, none⟩) n cap),
 .v (.int .i64 ((i : Int))),
 .v (.pointer (some ⟨b, o + i * 6, none⟩)),
 .v (.agg #[x.who, x.put, x.v, x.re, x.b, x.e]),
 .v (.bool false),
 .v (.bool true),
 .v (.bool true)]

set_option maxRecDepth 100000 in
set_option maxHeartbeats 4000000 in
theorem sempty_any (l : List Ev) (A : Option Addr) (n cap : Nat) (w00 : World) (h0 : EvsR w00 A n l) (hn : n ≤ 1048576) :
  Calls Tryz.prog 12 #[.slice A n cap] w00 (RetBelow (.bool (emptyHeld l)) w00) := by
 have HL := Lib.hid h0.1
 go_enter Tryz.func12, Tryz.ntmps12
 go_wp2_with fail
 refine (sstory_any l A n cap _ h0 hn).mono ?_
 rintro e wa ⟨rfl, hBa⟩
 have ha := h0.below hBa
 cases hok : storyOk l
 ·
  have HR := Lib.hid (show emptyHeld l = false by unfold emptyHeld; rw [hok]; rfl)
  go_wp2
  go_ret
  exact .mk (congrArg Value.bool HR.out.symm) hBa
 go_wp2_with fail
 refine (stwice_any l A n cap _ ha hn).mono ?_
 rintro e w0 ⟨rfl, hBb⟩
 have h := ha.below hBb
 replace hBa := bstep hBa hBa.size hBb
 clear ha hBb
 cases htw : twiceB l
 case true =>
  have HR := Lib.hid (show emptyHeld l = true by unfold emptyHeld; rw [hok, htw]; rfl)
  go_wp2
  go_ret
  exact .mk (congrArg Value.bool HR.out.symm) hBa
 have HE := Lib.hid (show emptyHeld l = l.all (fun x => l.all fun y => !(x.re == 3 && y.re == 1 && decide (y.e < x.b)) || gotB l y.v x) by unfold emptyHeld; rw [hok, htw]; rfl)
 clear hok htw
 go_wp2
 go_loopw [3] (fun s3 W => ∃ i : Nat, i ≤ n ∧ s3 = .int .i64 i ∧ Below w0.heap.size w0 W ∧ (l.take i).all (fun x => l.all fun y => !(x.re == 3 && y.re == 1 && decide (y.e < x.b)) || gotB l y.v x) = true) (fun s3 _ => n - (intOf s3).toNat)
 case atStart => exact ⟨0, Nat.zero_le _, rfl, Below.refl _ _, rfl⟩
 case round =>
  obtain ⟨i, hin, rfl, hB, hal⟩ := hrel
  have hr : EvsR wr A n l := SlE.keep EvE.kept h (fun j _ hj => hB.block j hj)
  have HAL := Lib.hid hal; clear hal
  by_cases hlt : i < n
  ·
   obtain ⟨b, o, x, rfl, hx⟩ := evs_some hr hlt
   have HX_i := Lib.hid hx; clear hx
   have lo_i : (0 : Int) ≤ (i : Int) := by omega
   have hi_i : (i : Int) < (n : Int) := by omega
   have hN_i := hlt
   have hl := hr
   go_wp2
   go_loopw [4] (fun s4 W => ∃ k : Nat, k ≤ n ∧ s4 = .int .i64 k ∧ Below w0.heap.size w0 W ∧ (l.take k).all (fun y => !(x.re == 3 && y.re == 1 && decide (y.e < x.b)) || gotB l y.v x) = true) (fun s4 _ => n - (intOf s4).toNat)
   case atStart => exact ⟨0, Nat.zero_le _, rfl, hB, rfl⟩
   case round =>
    clear hB hl hr
    obtain ⟨k, hkn, rfl, hB, hak⟩ := hrel
    have hr : EvsR wr (some ⟨b, o, none⟩) n l := SlE.keep EvE.kept h (fun j _ hj => hB.block j hj)
    have HAK := Lib.hid hak; clear hak
    by_cases hkt : k < n
    ·
     obtain ⟨y, hy⟩ := evs_get hr hkt
     have HX_k := Lib.hid hy; clear hy
     have lo_k : (0 : Int) ≤ (k : Int) := by omega
     have hi_k : (k : Int) < (n : Int) := by omega
     have hN_k := hkt
     have hl := hr
     obtain ⟨b_, h1⟩ : ∃ b_, (x.re == 3) = b_ := ⟨_, rfl⟩
     cases b_
     ·
      have HA := Lib.hid h1
      have HQ := Lib.hid (show (fun y => !(x.re == 3 && y.re == 1 && decide (y.e < x.b)) || gotB l y.v x) y = true by simp only [h1, Bool.false_and, Bool.not_false, Bool.true_or])
      clear h1
      obtain ⟨i0_, i1_, i2_, i3_, i4_, i5_⟩ := ev_at hl hN_i HX_i.out
      obtain ⟨k0_, k1_, k2_, k3_, k4_, k5_⟩ := ev_at hl hN_k HX_k.out
      have qf0 := HA.out
      exact zfacV8
     obtain ⟨b_, h2⟩ : ∃ b_, (y.re == 1) = b_ := ⟨_, rfl⟩
     cases b_
     ·
      have HA := Lib.hid h1
      have HV := Lib.hid h2
      have HQ := Lib.hid (show (fun y => !(x.re == 3 && y.re == 1 && decide (y.e < x.b)) || gotB l y.v x) y = true by simp only [h2, Bool.false_and, Bool.and_false, Bool.not_false, Bool.true_or])
      clear h1 h2
      obtain ⟨i0_, i1_, i2_, i3_, i4_, i5_⟩ := ev_at hl hN_i HX_i.out
      obtain ⟨k0_, k1_, k2_, k3_, k4_, k5_⟩ := ev_at hl hN_k HX_k.out
      have qf0 := HA.out
      have qf1 := HV.out
      exact zfacV8
     obtain ⟨b_, h3⟩ : ∃ b_, (decide (y.e < x.b)) = b_ := ⟨_, rfl⟩
     cases b_
     ·
      have HA := Lib.hid h1
      have HV := Lib.hid h2
      have HT := Lib.hid h3
      have HQ := Lib.hid (show (fun y => !(x.re == 3 && y.re == 1 && decide (y.e < x.b)) || gotB l y.v x) y = true by simp only [h3, Bool.and_false, Bool.not_false, Bool.true_or])
      clear h1 h2 h3
      go_wp2_with fail
      refine wp_region2v (fun w w' => Below w.heap.size w w') (fun _ _ h => h.size) (fun _ => Below.refl _ _) (fun L W' => Below w0.heap.size w0 W' ∧ EvsR W' (some ⟨b, o, none⟩) n l) (ehCV l x y x0 x0 b o n cap i k 0 0 w0) (fun _ => 0) [] (by kernel_rfl) (by kernel_rfl) ?_ ?_ ?_
       (.still rfl ?a0 <| .still rfl ?a1 <| .still rfl ?a2 <| .still rfl ?a3 <| .still rfl ?a4 <| .still rfl ?a5 <| .still rfl ?a6 <| .still rfl ?a7 <| .still rfl ?a8 <| .still rfl ?a9 <| .still rfl ?a10 <| .still rfl ?a11 <| .still rfl ?a12 <| .still rfl ?a13 <| .still rfl ?a14 <| .still rfl ?a15 <| .still rfl ?a16 <| .still rfl ?a17 <| .still rfl ?a18 <| .still rfl ?a19 <| .still rfl ?a20 <| .still rfl ?a21 <| .still rfl ?a22 <| .grow rfl ?a23 <| .still rfl ?a24 <| .still rfl ?a25 <| .still rfl ?a26 <| .still rfl ?a27 <| .still rfl ?a28 <| .still rfl ?a29 <| .still rfl ?a30 <| .still rfl ?a31 <| .still rfl ?a32 <| .still rfl ?a33 <| .still rfl ?a34 <| .still rfl ?a35 <| .still rfl ?a36 <| .still rfl ?a37 <| .still rfl ?a38 <| .nil) ?_ ?_
      · exact trivial
      · exact trivial
      · exact ⟨hB.drew, hl⟩
      case a0 | a1 | a3 | a6 | a7 | a8 | a10 | a13 | a14 | a15 | a16 | a19 | a20 | a24 | a25 | a26 | a27 | a28 | a29 | a30 | a31 | a32 | a33 | a34 | a35 | a36 | a37 | a38 =>
       go_light
       intro L σ W' hcl hL hC hw
       try have e2 := wT hw 2 rfl
       try have e5 := wT hw 5 rfl
       try have e6 := wT hw 6 rfl
       try have e9 := wT hw 9 rfl
       try have e12 := wT hw 12 rfl
       try have e13 := wT hw 13 rfl
       try have e14 := wT hw 14 rfl
       try have e23 := wT hw 23 rfl
       try have e24 := wT hw 24 rfl
       try have e25 := wT hw 25 rfl
       try have e26 := wT hw 26 rfl
       try have e27 := wT hw 27 rfl
       try have e28 := wT hw 28 rfl
       try have e29 := wT hw 29 rfl
       try have e30 := wT hw 30 rfl
       try have e31 := wT hw 31 rfl
       try have e32 := wT hw 32 rfl
       try have e33 := wT hw 33 rfl
       try have e34 := wT hw 34 rfl
       try have e35 := wT hw 35 rfl
       try have e36 := wT hw 36 rfl
       try have e37 := wT hw 37 rfl
       exact zfacV0
      case a4 | a22 =>
       go_light
       intro L σ W' hcl hL hC hw
       try have e3 := wT hw 3 rfl
       try have e14 := wT hw 14 rfl
       try have e21 := wT hw 21 rfl
       obtain ⟨c0, c1, c2, c3, c4, c5⟩ := ev_at hC.2 hN_i HX_i.out
       exact zfacV0
      case a11 | a18 =>
       go_light
       intro L σ W' hcl hL hC hw
       try have e6 := wT hw 6 rfl
       try have e10 := wT hw 10 rfl
       try have e14 := wT hw 14 rfl
       try have e17 := wT hw 17 rfl
       obtain ⟨c0, c1, c2, c3, c4, c5⟩ := ev_at hC.2 hN_k HX_k.out
       exact zfacV0
      case a2 =>
       go_light
       intro L σ W' hcl hL hC hw
       have e0 := wV hw 0 rfl
       have e1 := wV hw 1 rfl
       have g1 := lo_i
       have g2 := hi_i
       exact zfacV0
      case a5 =>
       go_light
       intro L σ W' hcl hL hC hw
       have e4 := wV hw 4 rfl
       have q0 := HA.out
       exact zfacV0
      case a9 =>
       go_light
       intro L σ W' hcl hL hC hw
       have e6 := wV hw 6 rfl
       have e7 := wV hw 7 rfl
       have e8 := wV hw 8 rfl
       have g1 := lo_k
       have g2 := hi_k
       exact zfacV0
      case a12 =>
       go_light
       intro L σ W' hcl hL hC hw
       have e6 := wV hw 6 rfl
       have e11 := wV hw 11 rfl
       have q0 := HV.out
       exact zfacV0
      case a17 =>
       go_light
       intro L σ W' hcl hL hC hw
       have e14 := wV hw 14 rfl
       have e15 := wV hw 15 rfl
       have e16 := wV hw 16 rfl
       have g1 := lo_k
       have g2 := hi_k
       exact zfacV0
      case a21 =>
       go_light
       intro L σ W' hcl hL hC hw
       have e14 := wV hw 14 rfl
       have e19 := wV hw 19 rfl
       have e20 := wV hw 20 rfl
       have g1 := lo_i
       have g2 := hi_i
       exact zfacV0
      case a23 =>
       exact zfacV1
      ·
       intro L L' W' hLL hC
       obtain ⟨hB, hl⟩ := hC
       exact ⟨hB, hl⟩
      ·
       exact zfacV5
     obtain ⟨b_, h4⟩ : ∃ b_, (gotB l y.v x) = b_ := ⟨_, rfl⟩
     cases b_
     ·
      have HA := Lib.hid h1
      have HV := Lib.hid h2
      have HT := Lib.hid h3
      have HG := Lib.hid h4
      have HR := Lib.hid (show emptyHeld l = false by
       rw [HE.out]
       have q1 : (fun y => !(x.re == 3 && y.re == 1 && decide (y.e < x.b)) || gotB l y.v x) y = false := by simp only [h1, h2, h3, h4, Bool.and_self, Bool.not_true, Bool.or_self]
       exact all_no HX_i.out (all_no HX_k.out q1))
      clear h1 h2 h3 h4
      go_wp2_with fail
      refine wp_region2v (fun w w' => Below w.heap.size w w') (fun _ _ h => h.size) (fun _ => Below.refl _ _) (fun L W' => Below w0.heap.size w0 W' ∧ EvsR W' (some ⟨b, o, none⟩) n l) (ehEV l x y x0 x0 b o n cap i k 0 0 w0) (fun _ => 0) [] (by kernel_rfl) (by kernel_rfl) ?_ ?_ ?_
       (.still rfl ?a0 <| .still rfl ?a1 <| .still rfl ?a2 <| .still rfl ?a3 <| .still rfl ?a4 <| .still rfl ?a5 <| .still rfl ?a6 <| .still rfl ?a7 <| .still rfl ?a8 <| .still rfl ?a9 <| .still rfl ?a10 <| .still rfl ?a11 <| .still rfl ?a12 <| .still rfl ?a13 <| .still rfl ?a14 <| .still rfl ?a15 <| .still rfl ?a16 <| .still rfl ?a17 <| .still rfl ?a18 <| .still rfl ?a19 <| .still rfl ?a20 <| .still rfl ?a21 <| .still rfl ?a22 <| .grow rfl ?a23 <| .still rfl ?a24 <| .still rfl ?a25 <| .still rfl ?a26 <| .still rfl ?a27 <| .still rfl ?a28 <| .still rfl ?a29 <| .still rfl ?a30 <| .still rfl ?a31 <| .still rfl ?a32 <| .still rfl ?a33 <| .still rfl ?a34 <| .still rfl ?a35 <| .grow rfl ?a36 <| .still rfl ?a37 <| .still rfl ?a38 <| .nil) ?_ ?_
      · exact trivial
      · exact trivial
      · exact ⟨hB.drew, hl⟩
      case a0 | a1 | a3 | a6 | a7 | a8 | a10 | a13 | a14 | a15 | a16 | a19 | a20 | a24 | a25 | a26 | a27 | a28 | a30 | a32 | a33 | a37 | a38 =>
       go_light
       intro L σ W' hcl hL hC hw
       try have e2 := wT hw 2 rfl
       try have e5 := wT hw 5 rfl
       try have e6 := wT hw 6 rfl
       try have e9 := wT hw 9 rfl
       try have e12 := wT hw 12 rfl
       try have e13 := wT hw 13 rfl
       try have e14 := wT hw 14 rfl
       try have e23 := wT hw 23 rfl
       try have e24 := wT hw 24 rfl
       try have e25 := wT hw 25 rfl
       try have e29 := wT hw 29 rfl
       try have e36 := wT hw 36 rfl
       try have e37 := wT hw 37 rfl
       exact zfacV0
      case a4 | a22 | a35 =>
       go_light
       intro L σ W' hcl hL hC hw
       try have e3 := wT hw 3 rfl
       try have e14 := wT hw 14 rfl
       try have e21 := wT hw 21 rfl
       try have e25 := wT hw 25 rfl
       try have e34 := wT hw 34 rfl
       obtain ⟨c0, c1, c2, c3, c4, c5⟩ := ev_at hC.2 hN_i HX_i.out
       exact zfacV0
      case a11 | a18 | a31 =>
       go_light
       intro L σ W' hcl hL hC hw
       try have e6 := wT hw 6 rfl
       try have e10 := wT hw 10 rfl
       try have e14 := wT hw 14 rfl
       try have e17 := wT hw 17 rfl
       try have e25 := wT hw 25 rfl
       try have e30 := wT hw 30 rfl
       obtain ⟨c0, c1, c2, c3, c4, c5⟩ := ev_at hC.2 hN_k HX_k.out
       exact zfacV0
      case a2 =>
       go_light
       intro L σ W' hcl hL hC hw
       have e0 := wV hw 0 rfl
       have e1 := wV hw 1 rfl
       have g1 := lo_i
       have g2 := hi_i
       exact zfacV0
      case a5 =>
       go_light
       intro L σ W' hcl hL hC hw
       have e4 := wV hw 4 rfl
       have q0 := HA.out
       exact zfacV0
      case a9 =>
       go_light
       intro L σ W' hcl hL hC hw
       have e6 := wV hw 6 rfl
       have e7 := wV hw 7 rfl
       have e8 := wV hw 8 rfl
       have g1 := lo_k
       have g2 := hi_k
       exact zfacV0
      case a12 =>
       go_light
       intro L σ W' hcl hL hC hw
       have e6 := wV hw 6 rfl
       have e11 := wV hw 11 rfl
       have q0 := HV.out
       exact zfacV0
      case a17 =>
       go_light
       intro L σ W' hcl hL hC hw
       have e14 := wV hw 14 rfl
       have e15 := wV hw 15 rfl
       have e16 := wV hw 16 rfl
       have g1 := lo_k
       have g2 := hi_k
       exact zfacV0
      case a21 =>
       go_light
       intro L σ W' hcl hL hC hw
       have e14 := wV hw 14 rfl
       have e19 := wV hw 19 rfl
       have e20 := wV hw 20 rfl
       have g1 := lo_i
       have g2 := hi_i
       exact zfacV0
      case a23 =>
       exact zfacV1
      case a29 =>
       go_light
       intro L σ W' hcl hL hC hw
       have e25 := wV hw 25 rfl
       have e27 := wV hw 27 rfl
       have e28 := wV hw 28 rfl
       have g1 := lo_k
       have g2 := hi_k
       exact zfacV0
      case a34 =>
       go_light
       intro L σ W' hcl hL hC hw
       have e25 := wV hw 25 rfl
       have e32 := wV hw 32 rfl
       have e33 := wV hw 33 rfl
       have g1 := lo_i
       have g2 := hi_i
       exact zfacV0
      case a36 =>
       exact zfacV3
      ·
       intro L L' W' hLL hC
       obtain ⟨hB, hl⟩ := hC
       exact ⟨hB, hl⟩
      ·
       intro σ L W' hall hC hRR
       obtain ⟨hB, hl⟩ := hC
       have e38 := dV hRR 38 rfl
       exact zfacV10
     ·
      have HA := Lib.hid h1
      have HV := Lib.hid h2
      have HT := Lib.hid h3
      have HG := Lib.hid h4
      have HQ := Lib.hid (show (fun y => !(x.re == 3 && y.re == 1 && decide (y.e < x.b)) || gotB l y.v x) y = true by simp only [h4, Bool.or_true])
      clear h1 h2 h3 h4
      go_wp2_with fail
      refine wp_region2v (fun w w' => Below w.heap.size w w') (fun _ _ h => h.size) (fun _ => Below.refl _ _) (fun L W' => Below w0.heap.size w0 W' ∧ EvsR W' (some ⟨b, o, none⟩) n l) (ehDV l x y x0 x0 b o n cap i k 0 0 w0) (fun _ => 0) [] (by kernel_rfl) (by kernel_rfl) ?_ ?_ ?_
       (.still rfl ?a0 <| .still rfl ?a1 <| .still rfl ?a2 <| .still rfl ?a3 <| .still rfl ?a4 <| .still rfl ?a5 <| .still rfl ?a6 <| .still rfl ?a7 <| .still rfl ?a8 <| .still rfl ?a9 <| .still rfl ?a10 <| .still rfl ?a11 <| .still rfl ?a12 <| .still rfl ?a13 <| .still rfl ?a14 <| .still rfl ?a15 <| .still rfl ?a16 <| .still rfl ?a17 <| .still rfl ?a18 <| .still rfl ?a19 <| .still rfl ?a20 <| .still rfl ?a21 <| .still rfl ?a22 <| .grow rfl ?a23 <| .still rfl ?a24 <| .still rfl ?a25 <| .still rfl ?a26 <| .still rfl ?a27 <| .still rfl ?a28 <| .still rfl ?a29 <| .still rfl ?a30 <| .still rfl ?a31 <| .still rfl ?a32 <| .still rfl ?a33 <| .still rfl ?a34 <| .still rfl ?a35 <| .grow rfl ?a36 <| .still rfl ?a37 <| .still rfl ?a38 <| .nil) ?_ ?_
      · exact trivial
      · exact trivial
      · exact ⟨hB.drew, hl⟩
      case a0 | a1 | a3 | a6 | a7 | a8 | a10 | a13 | a14 | a15 | a16 | a19 | a20 | a24 | a25 | a26 | a27 | a28 | a30 | a32 | a33 | a37 | a38 =>
       go_light
       intro L σ W' hcl hL hC hw
       try have e2 := wT hw 2 rfl
       try have e5 := wT hw 5 rfl
       try have e6 := wT hw 6 rfl
       try have e9 := wT hw 9 rfl
       try have e12 := wT hw 12 rfl
       try have e13 := wT hw 13 rfl
       try have e14 := wT hw 14 rfl
       try have e23 := wT hw 23 rfl
       try have e24 := wT hw 24 rfl
       try have e25 := wT hw 25 rfl
       try have e29 := wT hw 29 rfl
       try have e36 := wT hw 36 rfl
       try have e37 := wT hw 37 rfl
       exact zfacV0
      case a4 | a22 | a35 =>
       go_light
       intro L σ W' hcl hL hC hw
       try have e3 := wT hw 3 rfl
       try have e14 := wT hw 14 rfl
       try have e21 := wT hw 21 rfl
       try have e25 := wT hw 25 rfl
       try have e34 := wT hw 34 rfl
       obtain ⟨c0, c1, c2, c3, c4, c5⟩ := ev_at hC.2 hN_i HX_i.out
       exact zfacV0
      case a11 | a18 | a31 =>
       go_light
       intro L σ W' hcl hL hC hw
       try have e6 := wT hw 6 rfl
       try have e10 := wT hw 10 rfl
       try have e14 := wT hw 14 rfl
       try have e17 := wT hw 17 rfl
       try have e25 := wT hw 25 rfl
       try have e30 := wT hw 30 rfl
       obtain ⟨c0, c1, c2, c3, c4, c5⟩ := ev_at hC.2 hN_k HX_k.out
       exact zfacV0
      case a2 =>
       go_light
       intro L σ W' hcl hL hC hw
       have e0 := wV hw 0 rfl
       have e1 := wV hw 1 rfl
       have g1 := lo_i
       have g2 := hi_i
       exact zfacV0
      case a5 =>
       go_light
       intro L σ W' hcl hL hC hw
       have e4 := wV hw 4 rfl
       have q0 := HA.out
       exact zfacV0
      case a9 =>
       go_light
       intro L σ W' hcl hL hC hw
       have e6 := wV hw 6 rfl
       have e7 := wV hw 7 rfl
       have e8 := wV hw 8 rfl
       have g1 := lo_k
       have g2 := hi_k
       exact zfacV0
      case a12 =>
       go_light
       intro L σ W' hcl hL hC hw
       have e6 := wV hw 6 rfl
       have e11 := wV hw 11 rfl
       have q0 := HV.out
       exact zfacV0
      case a17 =>
       go_light
       intro L σ W' hcl hL hC hw
       have e14 := wV hw 14 rfl
       have e15 := wV hw 15 rfl
       have e16 := wV hw 16 rfl
       have g1 := lo_k
       have g2 := hi_k
       exact zfacV0
      case a21 =>
       go_light
       intro L σ W' hcl hL hC hw
       have e14 := wV hw 14 rfl
       have e19 := wV hw 19 rfl
       have e20 := wV hw 20 rfl
       have g1 := lo_i
       have g2 := hi_i
       exact zfacV0
      case a23 =>
       exact zfacV1
      case a29 =>
       go_light
       intro L σ W' hcl hL hC hw
       have e25 := wV hw 25 rfl
       have e27 := wV hw 27 rfl
       have e28 := wV hw 28 rfl
       have g1 := lo_k
       have g2 := hi_k
       exact zfacV0
      case a34 =>
       go_light
       intro L σ W' hcl hL hC hw
       have e25 := wV hw 25 rfl
       have e32 := wV hw 32 rfl
       have e33 := wV hw 33 rfl
       have g1 := lo_i
       have g2 := hi_i
       exact zfacV0
      case a36 =>
       exact zfacV3
      ·
       intro L L' W' hLL hC
       obtain ⟨hB, hl⟩ := hC
       exact ⟨hB, hl⟩
      ·
       exact zfacV5
    ·
     have k1 : ¬ (k : Int) < (n : Int) := by omega
     obtain rfl : n = k := by omega
     have HQ := Lib.hid (show (fun x => l.all fun y => !(x.re == 3 && y.re == 1 && decide (y.e < x.b)) || gotB l y.v x) x = true by have := HAK.out; rw [← HL.out] at this; exact all_end this)
     go_wp2
     go_roundw
     case rel => exact ⟨i + 1, by omega, by go_num, hB, all_to (p := (fun x => l.all fun y => !(x.re == 3 && y.re == 1 && decide (y.e < x.b)) || gotB l y.v x)) HX_i.out HAL.out HQ.out⟩
     case measure => simp [intOf]; omega
  ·
   have g1 : ¬ (i : Int) < (n : Int) := by omega
   obtain rfl : n = i := by omega
   have HV := Lib.hid (show emptyHeld l = true by
    rw [HE.out]; have := HAL.out; rw [← HL.out] at this; exact all_end this)
   go_wp2
   go_ret
   exact .mk (congrArg Value.bool HV.out.symm) (bstep hBa hBa.size hB)

end Go.Proofs.YtiiaimjlohpemaaGreat

