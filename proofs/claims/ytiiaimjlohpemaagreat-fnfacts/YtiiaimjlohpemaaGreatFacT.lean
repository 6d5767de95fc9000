/-
 The model's facts of a story.
-/
import Derived.Deep.Light
import Derived.Test.YtiiaimjlohpemaaGreatRepB
import Derived.Test.YtiiaimjlohpemaaGreatGrowV
namespace Go.Proofs.YtiiaimjlohpemaaGreat
set_option linter.unusedSimpArgs false
set_option linter.unusedVariables false
open Go.RowKit
set_option linter.unusedVariables false
attribute [local go_sem] OpUpon
attribute [local go_sem ↓] Go.wp_at_zero Go.wp_at_succ

theorem zfacT0 {p : Prop} (h : p := by
 clear hw hcl hL hC
 refine OpGoes.go fun K hK => ?_
 go_simp
 exact hK _ _ ⟨rfl, rfl⟩) : p := h -- ee92c020
theorem zfacT1 {p : Prop} (h : p := by
 rintro e w1 ⟨rfl, hb1⟩
 exact ⟨_, rfl, hK _ _ ⟨⟨bstep hB hB.size hb1, hl.below hb1⟩, rfl, hb1⟩⟩) : p := h -- 26d1cfa3
theorem zfacT2 {p : Prop} (h : p := by
 go_wp2
 go_roundw
 case rel => exact ⟨i + 1, by omega, by rw [HN.out, HQ.out]; rfl, by go_num, hB⟩
 case measure => simp [intOf]; omega) : p := h -- a3f41875
theorem zfacT3 {p : Prop} (h : p := by
 go_wp2
 go_quiet (fail)
 go_wp2
 go_roundw
 case rel => exact ⟨k + 1, by omega, by rw [any_to (p := (fun y => y.re == 1 && y.v == x.v && !decide (x.e < y.b))) HX_k.out]; rw [HS.out, HQ.out]; rfl, by go_num, ⟨hB.os, hB.tape, hB.output, hB.size, hB.block⟩⟩
 case measure => simp [intOf]; omega) : p := h -- 29f26201
theorem zfacT4 {p : Prop} (h : p := by
 go_wp2
 go_quiet (fail)
 go_wp2
 go_roundw
 case rel => exact ⟨i + 1, by omega, by go_num, ⟨hB.os, hB.tape, hB.output, hB.size, hB.block⟩, all_to (p := fun x => !(fun x => !(x.re == 2) && decide (0 < x.v) && decide (1 < times l x.v x.put)) x) HX_i.out HAL.out (by simp only [HQ.out]; rfl)⟩
 case measure => simp [intOf]; omega) : p := h -- 2381d77c
theorem zfacT5 {p : Prop} (h : p := by
 go_wp2
 go_roundw
 case rel => exact ⟨i + 1, by omega, by go_num, hB, all_to (p := (fun x => !(x.re == 4) || (decide (times l x.v false ≤ times l x.v true) && l.any fun y => y.re == 1 && y.v == x.v && !decide (x.e < y.b)))) HX_i.out HAL.out HQ.out⟩
 case measure => simp [intOf]; omega) : p := h -- aa307b9f
theorem zfacT6 {p : Prop} (h : p := by
 clear hRR
 simp only [lexAll]
 go_simp
 go_step
 go_wp2
 go_ret
 exact .mk (congrArg Value.bool HR.out.symm) hB) : p := h -- 90281254
theorem zfacT7 {p : Prop} (h : p := by
 go_wp2
 go_roundw
 case rel => exact ⟨i + 1, by omega, by go_num, hB, hx, all_to (p := fun x => !ofG v x) HX_i.out HAL.out (by rw [HQ.out]; rfl)⟩
 case measure => simp [intOf]; omega) : p := h -- 8d8df6a9

def x0 : Ev := ⟨0, false, 0, 0, 0, 0⟩
set_option maxHeartbeats 400000 in
theorem sahd_any (x y : Ev) (w : World) : Calls Tryz.prog 26 #[.agg #[x.who, x.put, x.v, x.re, x.b, x.e], .agg #[y.who, y.put, y.v, y.re, y.b, y.e]] w (RetBelow (.bool (decide (x.e < y.b))) w) := by
 by_cases h : x.e < y.b
 all_goals
  go_enter Tryz.func26, Tryz.ntmps26
  go_wp2
  go_ret
  exact .mk (by simp [h]) (((Below.refl _ _).alloc (Nat.le_refl _) _).alloc (by simp) _)

theorem ev_at {w : World} {b o n i : Nat} {l : List Ev} {y : Ev} (h : EvsR w (some ⟨b, o, none⟩) n l) (hi : i < n) (hy : l[i]? = some y) : EvE 0 w b (o + i * 6) y := by
 obtain ⟨b', o', y', e, _, hy', hE⟩ := SlE.at_ h hi
 injection e with e
 injection e with e1 e2
 rw [hy] at hy'
 injection hy' with hy'
 rw [hy', e1, e2]
 exact hE
theorem evs_some {w : World} {A : Option Addr} {n i : Nat} {l : List Ev} (h : EvsR w A n l) (hi : i < n) : ∃ b o x, A = some ⟨b, o, none⟩ ∧ l[i]? = some x := by
 obtain ⟨b, o, x, e, _, hx, _⟩ := SlE.at_ h hi
 exact ⟨b, o, x, e, hx⟩
theorem evs_get {w : World} {A : Option Addr} {n i : Nat} {l : List Ev} (h : EvsR w A n l) (hi : i < n) : ∃ x, l[i]? = some x := by
 obtain ⟨b, o, x, e, hx⟩ := evs_some h hi
 exact ⟨x, hx⟩

def ofV (v : Int) (put : Bool) (x : Ev) : Bool := x.put == put && x.v == v && (x.re == 1 || x.re == 4)
theorem times_eq (l : List Ev) (v : Int) (put : Bool) : times l v put = (l.filter (ofV v put)).length := rfl
theorem times_le (l : List Ev) (v : Int) (put : Bool) : times l v put ≤ l.length := List.length_filter_le _ _

set_option maxHeartbeats 2000000 in
theorem stimes_any (l : List Ev) (v : Int) (put : Bool) (A : Option Addr) (n cap : Nat) (w : World) (h : EvsR w A n l) (hn : n ≤ 1048576) :
  Calls Tryz.prog 25 #[.slice A n cap, v, put] w (RetBelow (.int .i64 (times l v put : Int)) w) := by
 have HL := Lib.hid h.1
 go_enter Tryz.func25, Tryz.ntmps25
 go_wp2
 go_loopw [7, 8] (fun s7 s8 W => ∃ i : Nat, i ≤ n ∧ s7 = .int .i64 (((l.take i).filter (ofV v put)).length : Int) ∧ s8 = .int .i64 i ∧ Below w.heap.size w W) (fun _ s8 _ => n - (intOf s8).toNat)
 case atStart => exact ⟨0, Nat.zero_le _, rfl, rfl, Below.refl _ _⟩
 case round =>
  obtain ⟨i, hin, rfl, rfl, hB⟩ := hrel
  by_cases hlt : i < n
  ·
   obtain ⟨b, o, x, rfl, _, hx, c0, c1, c2, c3, c4, c5⟩ := SlE.at_ (SlE.keep EvE.kept h (fun j _ hj => hB.block j hj)) hlt
   have HX := Lib.hid hx; clear hx
   have g1 : (i : Int) < (n : Int) := by omega
   have g2 : (0 : Int) ≤ (i : Int) := by omega
   have hle := cnt_le (p := ofV v put) (l := l) (i := i)
   have HN := Lib.hid (cnt_to (p := ofV v put) HX.out)
   generalize hm : ((l.take i).filter (ofV v put)).length = m at *
   have wq : IntKind.wrap .i64 ((m : Int) + 1) = (m : Int) + 1 := Go.IntWalk.i64_in _ (by omega)
   cases h1 : (x.put == put)
   ·
    have HQ := Lib.hid (show ofV v put x = false by simp [ofV, h1])
    exact zfacT2
   cases h2 : (x.v == v)
   ·
    have HQ := Lib.hid (show ofV v put x = false by simp [ofV, h2])
    exact zfacT2
   cases h3 : (x.re == 1)
   ·
    cases h4 : (x.re == 4)
    ·
     have HQ := Lib.hid (show ofV v put x = false by simp [ofV, h1, h2, h3, h4])
     exact zfacT2
    ·
     have HQ := Lib.hid (show ofV v put x = true by simp [ofV, h1, h2, h3, h4])
     exact zfacT2
   ·
    have HQ := Lib.hid (show ofV v put x = true by simp [ofV, h1, h2, h3])
    exact zfacT2
  ·
   have g1 : ¬ (i : Int) < (n : Int) := by omega
   obtain rfl : n = i := by omega
   have HQ := Lib.hid (show ((l.take n).filter (ofV v put)).length = times l v put by rw [times_eq, ← HL.out, List.take_length])
   rw [HQ.out]
   go_wp2
   go_ret
   exact .mk rfl hB

def twCV (l : List Ev) (x y z q : Ev) (b o n cap i k j BX : Nat) (w0 : World) : List Sl := [.v (.slice (some ⟨b, o, none⟩) n cap),
 .v (.int .i64 ((i : Int))),
 .v (.pointer (some ⟨b, o + i * 6, none⟩)),
 .v (.pointer (some ⟨b, o + i * 6 + 3, none⟩)),
 .v x.re,
 .v (.bool true),
 .v (.bool true),
 .v (.slice (some ⟨b, o, none⟩) n cap),
 .v (.int .i64 ((i : Int))),
 .v (.pointer (some ⟨b, o + i * 6, none⟩)),
 .v (.pointer (some ⟨b, o + i * 6 + 2, none⟩)),
 .v x.v,
 .v (.bool true),
 .v (.bool true),
 .v (.bool true),
 .v (.slice (some ⟨b, o, none⟩) n cap),
 .v (.slice (some ⟨b, o, none⟩) n cap),
 .v (.int .i64 ((i : Int))),
 .v (.pointer (some ⟨b, o + i * 6, none⟩)),
 .v (.pointer (some ⟨b, o + i * 6 + 2, none⟩)),
 .v x.v,
 .v (.slice (some ⟨b, o, none⟩) n cap),
 .v (.int .i64 ((i : Int))),
 .v (.pointer (some ⟨b, o + i * 6, none⟩)),
 .v (.pointer (some ⟨b, o + i * 6 + 1, none⟩)),
 .v (.bool x.put),
 .v (.int .i64 ((times l x.v x.put : Int))),
 .v (.bool false),
 .v (.bool false)]

def twDV (l : List Ev) (x y z q : Ev) (b o n cap i k j BX : Nat) (w0 : World) : List Sl := [.v (.slice (some ⟨b, o, none⟩) n cap),
 .v (.int .i64 ((i : Int))),
 .v (.pointer (some ⟨b, o + i * 6, none⟩)),
 .v (.pointer (some ⟨b, o + i * 6 + 3, none⟩)),
 .v x.re,
 .v (.bool true),
 .v (.bool true),
 .v (.slice (some ⟨b, o, none⟩) n cap),
 .v (.int .i64 ((i : Int))),
 .v (.pointer (some ⟨b, o + i * 6, none⟩)),
 .v (.pointer (some ⟨b, o + i * 6 + 2, none⟩)),
 .v x.v,
 .v (.bool true),
 .v (.bool true),
 .v (.bool true),
 .v (.slice (some ⟨b, o, none⟩) n cap),
 .v (.slice (some ⟨b, o, none⟩) n cap),
 .v (.int .i64 ((i : Int))),
 .v (.pointer (some ⟨b, o + i * 6, none⟩)),
 .v (.pointer (some ⟨b, o + i * 6 + 2, none⟩)),
 .v x.v,
 .v (.slice (some ⟨b, o, none⟩) n cap),
 .v (.int .i64 ((i : Int))),
 .v (.pointer (some ⟨b, o + i * 6, none⟩)),
 .v (.pointer (some ⟨b, o + i * 6 + 1, none⟩)),
 .v (.bool x.put),
 .v (.int .i64 ((times l x.v x.put : Int))),
 .v (.bool true),
 .v (.bool true)]

set_option maxRecDepth 100000 in
set_option maxHeartbeats 4000000 in
theorem stwice_any (l : List Ev) (A : Option Addr) (n cap : Nat) (w0 : World) (h : EvsR w0 A n l) (hn : n ≤ 1048576) :
  Calls Tryz.prog 27 #[.slice A n cap] w0 (RetBelow (.bool (twiceB l)) w0) := by
 have HL := Lib.hid h.1
 go_enter Tryz.func27, Tryz.ntmps27
 go_wp2
 go_loopw [3] (fun s3 W => ∃ i : Nat, i ≤ n ∧ s3 = .int .i64 i ∧ Below w0.heap.size w0 W ∧ (l.take i).all (fun x => !(fun x => !(x.re == 2) && decide (0 < x.v) && decide (1 < times l x.v x.put)) x) = true) (fun s3 _ => n - (intOf s3).toNat)
 case atStart => exact ⟨0, Nat.zero_le _, rfl, Below.refl _ _, rfl⟩
 case round =>
  obtain ⟨i, hin, rfl, hB, hal⟩ := hrel
  have hr : EvsR wr A n l := SlE.keep EvE.kept h (fun j _ hj => hB.block j hj)
  have HAL := Lib.hid hal; clear hal
  by_cases hlt : i < n
  ·
   obtain ⟨b, o, x, rfl, hx⟩ := evs_some hr hlt
   have HX_i := Lib.hid hx; clear hx
   have lo_i : (0 : Int) ≤ (i : Int) := by omega
   have hi_i : (i : Int) < (n : Int) := by omega
   have hN_i := hlt
   have hl := hr
   cases h2 : (x.re == 2)
   ·
    have HA := Lib.hid (show (x.re != 2) = true by simp [bne, h2])
    by_cases hv : x.v > 0
    ·
     have HV := Lib.hid (show decide (0 < x.v) = true by simp; omega)
     by_cases ht : times l x.v x.put > 1
     ·
      have HT := Lib.hid (show decide (1 < (times l x.v x.put : Int)) = true by simp; omega)
      have HR := Lib.hid (show twiceB l = true by unfold twiceB; exact any_yes HX_i.out (by simp [h2]; omega))
      clear h2 hv ht
      go_wp2_with fail
      refine wp_region2v (fun w w' => Below w.heap.size w w') (fun _ _ h => h.size) (fun _ => Below.refl _ _) (fun L W' => Below w0.heap.size w0 W' ∧ EvsR W' (some ⟨b, o, none⟩) n l) (twDV l x x0 x0 x0 b o n cap i 0 0 0 w0) (fun _ => 0) [] (by kernel_rfl) (by kernel_rfl) ?_ ?_ ?_
       (.still rfl ?a0 <| .still rfl ?a1 <| .still rfl ?a2 <| .still rfl ?a3 <| .still rfl ?a4 <| .still rfl ?a5 <| .still rfl ?a6 <| .still rfl ?a7 <| .still rfl ?a8 <| .still rfl ?a9 <| .still rfl ?a10 <| .still rfl ?a11 <| .still rfl ?a12 <| .still rfl ?a13 <| .still rfl ?a14 <| .still rfl ?a15 <| .still rfl ?a16 <| .still rfl ?a17 <| .still rfl ?a18 <| .still rfl ?a19 <| .still rfl ?a20 <| .still rfl ?a21 <| .still rfl ?a22 <| .still rfl ?a23 <| .still rfl ?a24 <| .still rfl ?a25 <| .grow rfl ?a26 <| .still rfl ?a27 <| .still rfl ?a28 <| .nil) ?_ ?_
      · exact trivial
      · exact trivial
      · exact ⟨hB.drew, hl⟩
      case a0 | a1 | a3 | a6 | a7 | a8 | a10 | a13 | a14 | a15 | a16 | a17 | a19 | a21 | a22 | a24 | a28 =>
       go_light
       intro L σ W' hcl hL hC hw
       try have e2 := wT hw 2 rfl
       try have e5 := wT hw 5 rfl
       try have e6 := wT hw 6 rfl
       try have e9 := wT hw 9 rfl
       try have e12 := wT hw 12 rfl
       try have e13 := wT hw 13 rfl
       try have e14 := wT hw 14 rfl
       try have e18 := wT hw 18 rfl
       try have e23 := wT hw 23 rfl
       try have e27 := wT hw 27 rfl
       exact zfacT0
      case a4 | a11 | a20 | a25 =>
       go_light
       intro L σ W' hcl hL hC hw
       try have e3 := wT hw 3 rfl
       try have e6 := wT hw 6 rfl
       try have e10 := wT hw 10 rfl
       try have e14 := wT hw 14 rfl
       try have e19 := wT hw 19 rfl
       try have e24 := wT hw 24 rfl
       obtain ⟨c0, c1, c2, c3, c4, c5⟩ := ev_at hC.2 hN_i HX_i.out
       exact zfacT0
      case a2 =>
       go_light
       intro L σ W' hcl hL hC hw
       have e0 := wV hw 0 rfl
       have e1 := wV hw 1 rfl
       have g1 := lo_i
       have g2 := hi_i
       exact zfacT0
      case a5 =>
       go_light
       intro L σ W' hcl hL hC hw
       have e4 := wV hw 4 rfl
       have q0 := HA.out
       exact zfacT0
      case a9 =>
       go_light
       intro L σ W' hcl hL hC hw
       have e6 := wV hw 6 rfl
       have e7 := wV hw 7 rfl
       have e8 := wV hw 8 rfl
       have g1 := lo_i
       have g2 := hi_i
       exact zfacT0
      case a12 =>
       go_light
       intro L σ W' hcl hL hC hw
       have e6 := wV hw 6 rfl
       have e11 := wV hw 11 rfl
       have q0 := HV.out
       exact zfacT0
      case a18 =>
       go_light
       intro L σ W' hcl hL hC hw
       have e14 := wV hw 14 rfl
       have e16 := wV hw 16 rfl
       have e17 := wV hw 17 rfl
       have g1 := lo_i
       have g2 := hi_i
       exact zfacT0
      case a23 =>
       go_light
       intro L σ W' hcl hL hC hw
       have e14 := wV hw 14 rfl
       have e21 := wV hw 21 rfl
       have e22 := wV hw 22 rfl
       have g1 := lo_i
       have g2 := hi_i
       exact zfacT0
      case a26 =>
       go_light
       intro L σ W' hcl hL hC hw
       have e14 := wV hw 14 rfl
       have e15 := wV hw 15 rfl
       have e20 := wV hw 20 rfl
       have e25 := wV hw 25 rfl
       clear hw
       have HC := Lib.hid hC
       clear hC
       clear hcl hL
       refine OpGoes.go fun K hK => ?_
       go_simp
       obtain ⟨hB, hl⟩ := HC.out
       refine (stimes_any l x.v x.put _ n cap _ hl hn).mono ?_
       exact zfacT1
      case a27 =>
       go_light
       intro L σ W' hcl hL hC hw
       have e14 := wV hw 14 rfl
       have e26 := wV hw 26 rfl
       have q0 := HT.out
       exact zfacT0
      ·
       intro L L' W' hLL hC
       obtain ⟨hB, hl⟩ := hC
       exact ⟨hB, hl⟩
      ·
       intro σ L W' hall hC hRR
       obtain ⟨hB, hl⟩ := hC
       have e28 := dV hRR 28 rfl
       exact zfacT6
     ·
      have HT := Lib.hid (show decide (1 < (times l x.v x.put : Int)) = false by simp; omega)
      have HQ := Lib.hid (show (fun x => !(x.re == 2) && decide (0 < x.v) && decide (1 < times l x.v x.put)) x = false by simp; omega)
      clear h2 hv ht
      go_wp2_with fail
      refine wp_region2v (fun w w' => Below w.heap.size w w') (fun _ _ h => h.size) (fun _ => Below.refl _ _) (fun L W' => Below w0.heap.size w0 W' ∧ EvsR W' (some ⟨b, o, none⟩) n l) (twCV l x x0 x0 x0 b o n cap i 0 0 0 w0) (fun _ => 0) [] (by kernel_rfl) (by kernel_rfl) ?_ ?_ ?_
       (.still rfl ?a0 <| .still rfl ?a1 <| .still rfl ?a2 <| .still rfl ?a3 <| .still rfl ?a4 <| .still rfl ?a5 <| .still rfl ?a6 <| .still rfl ?a7 <| .still rfl ?a8 <| .still rfl ?a9 <| .still rfl ?a10 <| .still rfl ?a11 <| .still rfl ?a12 <| .still rfl ?a13 <| .still rfl ?a14 <| .still rfl ?a15 <| .still rfl ?a16 <| .still rfl ?a17 <| .still rfl ?a18 <| .still rfl ?a19 <| .still rfl ?a20 <| .still rfl ?a21 <| .still rfl ?a22 <| .still rfl ?a23 <| .still rfl ?a24 <| .still rfl ?a25 <| .grow rfl ?a26 <| .still rfl ?a27 <| .still rfl ?a28 <| .nil) ?_ ?_
      · exact trivial
      · exact trivial
      · exact ⟨hB.drew, hl⟩
      case a0 | a1 | a3 | a6 | a7 | a8 | a10 | a13 | a14 | a15 | a16 | a17 | a19 | a21 | a22 | a24 | a28 =>
       go_light
       intro L σ W' hcl hL hC hw
       try have e2 := wT hw 2 rfl
       try have e5 := wT hw 5 rfl
       try have e6 := wT hw 6 rfl
       try have e9 := wT hw 9 rfl
       try have e12 := wT hw 12 rfl
       try have e13 := wT hw 13 rfl
       try have e14 := wT hw 14 rfl
       try have e18 := wT hw 18 rfl
       try have e23 := wT hw 23 rfl
       try have e27 := wT hw 27 rfl
       exact zfacT0
      case a4 | a11 | a20 | a25 =>
       go_light
       intro L σ W' hcl hL hC hw
       try have e3 := wT hw 3 rfl
       try have e6 := wT hw 6 rfl
       try have e10 := wT hw 10 rfl
       try have e14 := wT hw 14 rfl
       try have e19 := wT hw 19 rfl
       try have e24 := wT hw 24 rfl
       obtain ⟨c0, c1, c2, c3, c4, c5⟩ := ev_at hC.2 hN_i HX_i.out
       exact zfacT0
      case a2 =>
       go_light
       intro L σ W' hcl hL hC hw
       have e0 := wV hw 0 rfl
       have e1 := wV hw 1 rfl
       have g1 := lo_i
       have g2 := hi_i
       exact zfacT0
      case a5 =>
       go_light
       intro L σ W' hcl hL hC hw
       have e4 := wV hw 4 rfl
       have q0 := HA.out
       exact zfacT0
      case a9 =>
       go_light
       intro L σ W' hcl hL hC hw
       have e6 := wV hw 6 rfl
       have e7 := wV hw 7 rfl
       have e8 := wV hw 8 rfl
       have g1 := lo_i
       have g2 := hi_i
       exact zfacT0
      case a12 =>
       go_light
       intro L σ W' hcl hL hC hw
       have e6 := wV hw 6 rfl
       have e11 := wV hw 11 rfl
       have q0 := HV.out
       exact zfacT0
      case a18 =>
       go_light
       intro L σ W' hcl hL hC hw
       have e14 := wV hw 14 rfl
       have e16 := wV hw 16 rfl
       have e17 := wV hw 17 rfl
       have g1 := lo_i
       have g2 := hi_i
       exact zfacT0
      case a23 =>
       go_light
       intro L σ W' hcl hL hC hw
       have e14 := wV hw 14 rfl
       have e21 := wV hw 21 rfl
       have e22 := wV hw 22 rfl
       have g1 := lo_i
       have g2 := hi_i
       exact zfacT0
      case a26 =>
       go_light
       intro L σ W' hcl hL hC hw
       have e14 := wV hw 14 rfl
       have e15 := wV hw 15 rfl
       have e20 := wV hw 20 rfl
       have e25 := wV hw 25 rfl
       clear hw
       have HC := Lib.hid hC
       clear hC
       clear hcl hL
       refine OpGoes.go fun K hK => ?_
       go_simp
       obtain ⟨hB, hl⟩ := HC.out
       refine (stimes_any l x.v x.put _ n cap _ hl hn).mono ?_
       exact zfacT1
      case a27 =>
       go_light
       intro L σ W' hcl hL hC hw
       have e14 := wV hw 14 rfl
       have e26 := wV hw 26 rfl
       have q0 := HT.out
       exact zfacT0
      ·
       intro L L' W' hLL hC
       obtain ⟨hB, hl⟩ := hC
       exact ⟨hB, hl⟩
      ·
       intro σ L W' hall hC hRR
       obtain ⟨hB, hl⟩ := hC
       have e28 := dV hRR 28 rfl
       clear hRR
       simp only [lexAll]
       go_simp
       go_step
       go_wp2
       go_roundw
       case rel => exact ⟨i + 1, by omega, by go_num, hB, all_to (p := fun x => !(fun x => !(x.re == 2) && decide (0 < x.v) && decide (1 < times l x.v x.put)) x) HX_i.out HAL.out (by simp only [HQ.out]; rfl)⟩
       case measure => simp [intOf]; omega
    ·
     have HV := Lib.hid (show decide (0 < x.v) = false by simp; omega)
     have HQ := Lib.hid (show (fun x => !(x.re == 2) && decide (0 < x.v) && decide (1 < times l x.v x.put)) x = false by simp; omega)
     clear h2 hv
     obtain ⟨i0_, i1_, i2_, i3_, i4_, i5_⟩ := ev_at hl hN_i HX_i.out
     have qf0 := HA.out
     have qf1 := HV.out
     exact zfacT4
   ·
    have HA := Lib.hid (show (x.re != 2) = false by simp [bne, h2])
    have HQ := Lib.hid (show (fun x => !(x.re == 2) && decide (0 < x.v) && decide (1 < times l x.v x.put)) x = false by simp [h2])
    clear h2
    obtain ⟨i0_, i1_, i2_, i3_, i4_, i5_⟩ := ev_at hl hN_i HX_i.out
    have qf0 := HA.out
    exact zfacT4
  ·
   have g1 : ¬ (i : Int) < (n : Int) := by omega
   obtain rfl : n = i := by omega
   have HV := Lib.hid (show twiceB l = false by
    have h1 : l.all (fun x => !(fun x => !(x.re == 2) && decide (0 < x.v) && decide (1 < times l x.v x.put)) x) = true := by have := HAL.out; rw [← HL.out] at this; exact all_end this
    unfold twiceB
    rw [List.any_eq_false]
    intro x hx
    have h2 := (List.all_eq_true.1 h1) x hx
    intro h3
    rw [show (fun x => !(x.re == 2) && decide (0 < x.v) && decide (1 < times l x.v x.put)) x = true from h3] at h2
    cases h2)
   go_wp2
   go_ret
   exact .mk (congrArg Value.bool HV.out.symm) hB

def lgAV (l : List Ev) (x y z q : Ev) (b o n cap i k j BX : Nat) (w0 : World) : List Sl := [.v (.agg #[q.who, q.put, q.v, q.re, q.b, q.e]),
 .v (.slice (some ⟨b, o, none⟩) n cap),
 .v (.int .i64 ((i : Int))),
 .v (.pointer (some ⟨b, o + i * 6, none⟩)),
 .v (.agg #[x.who, x.put, x.v, x.re, x.b, x.e]),
 .v (.bool ((decide (q.e < x.b)))),
 .v (.bool ((!decide (q.e < x.b)))),
 .v (.bool ((!decide (q.e < x.b))))]

def ofG (v : Int) (x : Ev) : Bool := x.re == 4 && x.v == v
theorem got_at {l : List Ev} {v : Int} {i : Nat} {x o : Ev} (h : (l.take i).all (fun x => !ofG v x) = true) (hx : l[i]? = some x) (hp : ofG v x = true) : gotB l v o = !decide (o.e < x.b) := by
 have h1 : l.find? (ofG v) = some x := by
  have h2 : l = l.take i ++ x :: l.drop (i + 1) := by
   obtain ⟨hi, hx'⟩ := List.getElem?_eq_some_iff.1 hx
   rw [← hx', List.getElem_cons_drop, List.take_append_drop]
  rw [h2, List.find?_append, List.find?_eq_none.2 (fun y hy => by
   have := (List.all_eq_true.1 h) y hy
   simpa using this)]
  simp [hp]
 unfold gotB
 rw [show l.find? (fun x => x.re == 4 && x.v == v) = some x from h1]
theorem got_no {l : List Ev} {v : Int} {o : Ev} (h : l.all (fun x => !ofG v x) = true) : gotB l v o = false := by
 unfold gotB
 rw [show l.find? (fun x => x.re == 4 && x.v == v) = none from List.find?_eq_none.2 (fun y hy hp => by
  have := (List.all_eq_true.1 h) y hy
  rw [show ofG v y = true from hp] at this
  cases this)]

set_option maxRecDepth 100000 in
set_option maxHeartbeats 4000000 in
theorem sgot_any (l : List Ev) (v : Int) (q : Ev) (A : Option Addr) (n cap : Nat) (w0 : World) (h : EvsR w0 A n l) (hn : n ≤ 1048576) :
  Calls Tryz.prog 28 #[.slice A n cap, v, .agg #[q.who, q.put, q.v, q.re, q.b, q.e]] w0 (RetBelow (.bool (gotB l v q)) w0) := by
 have HL := Lib.hid h.1
 go_enter Tryz.func28, Tryz.ntmps28
 go_upto_region 1 with fail
 obtain ⟨BX, hBX⟩ : ∃ BX, w0.heap.size = BX := ⟨_, rfl⟩
 have hB0 := (Below.refl w0.heap.size w0).alloc (Nat.le_refl _) (.cells #[q.who, q.put, q.v, q.re, q.b, q.e] 32)
 have hx0 : BoxAt (w0.alloc (.cells #[q.who, q.put, q.v, q.re, q.b, q.e] 32)) w0.heap.size #[q.who, q.put, q.v, q.re, q.b, q.e] 32 := .new _ _ _
 generalize w0.alloc (.cells #[q.who, q.put, q.v, q.re, q.b, q.e] 32) = W0 at *
 have hB0' : Below BX w0 W0 := by rw [← hBX]; exact hB0
 rw [hBX] at hx0 ⊢
 go_wp2
 go_loopw [7] (fun s7 W => ∃ i : Nat, i ≤ n ∧ s7 = .int .i64 i ∧ Below w0.heap.size w0 W ∧ BoxAt W BX #[q.who, q.put, q.v, q.re, q.b, q.e] 32 ∧ (l.take i).all (fun x => !ofG v x) = true) (fun s7 _ => n - (intOf s7).toNat)
 case atStart => exact ⟨0, Nat.zero_le _, rfl, hB0, hx0, rfl⟩
 case round =>
  obtain ⟨i, hin, rfl, hB, hx, hal⟩ := hrel
  have hr : EvsR wr A n l := SlE.keep EvE.kept h (fun j _ hj => hB.block j hj)
  have HAL := Lib.hid hal; clear hal
  by_cases hlt : i < n
  ·
   obtain ⟨b, o, x, rfl, hx'⟩ := evs_some hr hlt
   have HX_i := Lib.hid hx'; clear hx'
   have lo_i : (0 : Int) ≤ (i : Int) := by omega
   have hi_i : (i : Int) < (n : Int) := by omega
   have hN_i := hlt
   have hl := hr
   obtain ⟨c0, c1, c2, c3, c4, c5⟩ := ev_at hl hN_i HX_i.out
   cases h4 : (x.re == 4)
   ·
    have HQ := Lib.hid (show ofG v x = false by simp [ofG, h4])
    exact zfacT7
   cases h5 : (x.v == v)
   ·
    have HQ := Lib.hid (show ofG v x = false by simp [ofG, h5])
    exact zfacT7
   ·
    have HR := Lib.hid (got_at (o := q) HAL.out HX_i.out (show ofG v x = true by simp [ofG, h4, h5]))
    go_wp2_with fail
    clear c0 c1 c2 c3 c4 c5 h4 h5
    refine wp_region2v (fun w w' => Below w.heap.size w w') (fun _ _ h => h.size) (fun _ => Below.refl _ _) (fun L W' => Below w0.heap.size w0 W' ∧ EvsR W' (some ⟨b, o, none⟩) n l ∧ BoxAt W' BX #[q.who, q.put, q.v, q.re, q.b, q.e] 32) (lgAV l x x0 x0 q b o n cap i 0 0 BX w0) (fun _ => 0) [] (by kernel_rfl) (by kernel_rfl) ?_ ?_ ?_
     (.still rfl ?a0 <| .still rfl ?a1 <| .still rfl ?a2 <| .still rfl ?a3 <| .still rfl ?a4 <| .grow rfl ?a5 <| .still rfl ?a6 <| .still rfl ?a7 <| .nil) ?_ ?_
    · exact trivial
    · exact trivial
    · exact ⟨hB.drew, hl, hx⟩
    case a0 =>
     go_light
     intro L σ W' hcl hL hC hw
     have kx := hC.2.2.cell
     exact zfacT0
    case a1 | a2 | a6 | a7 =>
     go_light
     intro L σ W' hcl hL hC hw
     try have e5 := wT hw 5 rfl
     try have e6 := wT hw 6 rfl
     exact zfacT0
    case a4 =>
     go_light
     intro L σ W' hcl hL hC hw
     have e3 := wV hw 3 rfl
     obtain ⟨c0, c1, c2, c3, c4, c5⟩ := ev_at hC.2.1 hN_i HX_i.out
     exact zfacT0
    case a3 =>
     go_light
     intro L σ W' hcl hL hC hw
     have e1 := wV hw 1 rfl
     have e2 := wV hw 2 rfl
     have g1 := lo_i
     have g2 := hi_i
     exact zfacT0
    case a5 =>
     go_light
     intro L σ W' hcl hL hC hw
     have e0 := wV hw 0 rfl
     have e4 := wV hw 4 rfl
     clear hw
     have HC := Lib.hid hC
     clear hC
     clear hcl hL
     refine OpGoes.go fun K hK => ?_
     go_simp
     obtain ⟨hB, hl, hx⟩ := HC.out
     refine (sahd_any q x _).mono ?_
     rintro e w1 ⟨rfl, hb1⟩
     exact ⟨_, rfl, hK _ _ ⟨⟨bstep hB hB.size hb1, hl.below hb1, hx.below hb1 hx.lt⟩, rfl, hb1⟩⟩
    ·
     intro L L' W' hLL hC
     obtain ⟨hB, hl, hx⟩ := hC
     exact ⟨hB, hl, hx⟩
    ·
     intro σ L W' hall hC hRR
     obtain ⟨hB, hl, hx⟩ := hC
     have e7 := dV hRR 7 rfl
     exact zfacT6
  ·
   have g1 : ¬ (i : Int) < (n : Int) := by omega
   obtain rfl : n = i := by omega
   have HV := Lib.hid (got_no (o := q) (show l.all (fun x => !ofG v x) = true by have := HAL.out; rw [← HL.out] at this; exact all_end this))
   go_wp2
   go_ret
   exact .mk (congrArg Value.bool HV.out.symm) hB

end Go.Proofs.YtiiaimjlohpemaaGreat

/-
 The model's NothingTwice.
-/
namespace Go.Proofs.YtiiaimjlohpemaaGreat
set_option linter.unusedSimpArgs false
set_option linter.unusedVariables false
open Go.RowKit
set_option linter.unusedVariables false
attribute [local go_sem] OpUpon
attribute [local go_sem ↓] Go.wp_at_zero Go.wp_at_succ

def ntAV (l : List Ev) (x y z q : Ev) (b o n cap i k j BX : Nat) (w0 : World) : List Sl := [.v (.slice (some ⟨b, o, none⟩) n cap),
 .v (.slice (some ⟨b, o, none⟩) n cap),
 .v (.int .i64 ((i : Int))),
 .v (.pointer (some ⟨b, o + i * 6, none⟩)),
 .v (.pointer (some ⟨b, o + i * 6 + 2, none⟩)),
 .v x.v,
 .v (.int .i64 ((times l x.v false : Int))),
 .v (.slice (some ⟨b, o, none⟩) n cap),
 .v (.slice (some ⟨b, o, none⟩) n cap),
 .v (.int .i64 ((i : Int))),
 .v (.pointer (some ⟨b, o + i * 6, none⟩)),
 .v (.pointer (some ⟨b, o + i * 6 + 2, none⟩)),
 .v x.v,
 .v (.int .i64 ((times l x.v true : Int))),
 .v (.bool true)]

def ntBV (l : List Ev) (x y z q : Ev) (b o n cap i k j BX : Nat) (w0 : World) : List Sl := [.v (.slice (some ⟨b, o, none⟩) n cap),
 .v (.slice (some ⟨b, o, none⟩) n cap),
 .v (.int .i64 ((i : Int))),
 .v (.pointer (some ⟨b, o + i * 6, none⟩)),
 .v (.pointer (some ⟨b, o + i * 6 + 2, none⟩)),
 .v x.v,
 .v (.int .i64 ((times l x.v false : Int))),
 .v (.slice (some ⟨b, o, none⟩) n cap),
 .v (.slice (some ⟨b, o, none⟩) n cap),
 .v (.int .i64 ((i : Int))),
 .v (.pointer (some ⟨b, o + i * 6, none⟩)),
 .v (.pointer (some ⟨b, o + i * 6 + 2, none⟩)),
 .v x.v,
 .v (.int .i64 ((times l x.v true : Int))),
 .v (.bool false)]

def niDV (l : List Ev) (x y z q : Ev) (b o n cap i k j BX : Nat) (w0 : World) : List Sl := [.v (.bool false),
 .v (.bool false),
 .v (.slice (some ⟨b, o, none⟩) n cap),
 .v (.int .i64 ((k : Int))),
 .v (.pointer (some ⟨b, o + k * 6, none⟩)),
 .v (.pointer (some ⟨b, o + k * 6 + 3, none⟩)),
 .v y.re,
 .v (.bool true),
 .v (.bool true),
 .v (.slice (some ⟨b, o, none⟩) n cap),
 .v (.int .i64 ((k : Int))),
 .v (.pointer (some ⟨b, o + k * 6, none⟩)),
 .v (.pointer (some ⟨b, o + k * 6 + 2, none⟩)),
 .v y.v,
 .v (.slice (some ⟨b, o, none⟩) n cap),
 .v (.int .i64 ((i : Int))),
 .v (.pointer (some ⟨b, o + i * 6, none⟩)),
 .v (.pointer (some ⟨b, o + i * 6 + 2, none⟩)),
 .v x.v,
 .v (.bool true),
 .v (.bool true),
 .v (.bool true),
 .v (.slice (some ⟨b, o, none⟩) n cap),
 .v (.int .i64 ((i : Int))),
 .v (.pointer (some ⟨b, o + i * 6, none⟩)),
 .v (.agg #[x.who, x.put, x.v, x.re, x.b, x.e]),
 .v (.slice (some ⟨b, o, none⟩) n cap),
 .v (.int .i64 ((k : Int))),
 .v (.pointer (some ⟨b, o + k * 6, none⟩)),
 .v (.agg #[y.who, y.put, y.v, y.re, y.b, y.e]),
 .v (.bool ((decide (x.e < y.b)))),
 .v (.bool ((!decide (x.e < y.b)))),
 .v (.bool ((!decide (x.e < y.b)))),
 .v (.bool ((!decide (x.e < y.b)))),
 .v (.bool ((!decide (x.e < y.b))))]

set_option maxRecDepth 100000 in
set_option maxHeartbeats 4000000 in
theorem snothing_any (l : List Ev) (A : Option Addr) (n cap : Nat) (w0 : World) (h : EvsR w0 A n l) (hn : n ≤ 1048576) :
  Calls Tryz.prog 10 #[.slice A n cap] w0 (RetBelow (.bool (nothingTwice l)) w0) := by
 have HL := Lib.hid h.1
 go_enter Tryz.func10, Tryz.ntmps10
 go_wp2
 go_loopw [3] (fun s3 W => ∃ i : Nat, i ≤ n ∧ s3 = .int .i64 i ∧ Below w0.heap.size w0 W ∧ (l.take i).all (fun x => !(x.re == 4) || (decide (times l x.v false ≤ times l x.v true) && l.any fun y => y.re == 1 && y.v == x.v && !decide (x.e < y.b))) = true) (fun s3 _ => n - (intOf s3).toNat)
 case atStart => exact ⟨0, Nat.zero_le _, rfl, Below.refl _ _, rfl⟩
 case round =>
  obtain ⟨i, hin, rfl, hB, hal⟩ := hrel
  have hr : EvsR wr A n l := SlE.keep EvE.kept h (fun j _ hj => hB.block j hj)
  have HAL := Lib.hid hal; clear hal
  by_cases hlt : i < n
  ·
   obtain ⟨b, o, x, rfl, hx⟩ := evs_some hr hlt
   have HX_i := Lib.hid hx; clear hx
   have lo_i : (0 : Int) ≤ (i : Int) := by omega
   have hi_i : (i : Int) < (n : Int) := by omega
   have hN_i := hlt
   have hl := hr
   obtain ⟨c0, c1, c2, c3, c4, c5⟩ := ev_at hl hN_i HX_i.out
   cases h4 : (x.re == 4)
   ·
    have h4' : (x.re != 4) = true := by simp [bne, h4]
    have HQ := Lib.hid (show (fun x => !(x.re == 4) || (decide (times l x.v false ≤ times l x.v true) && l.any fun y => y.re == 1 && y.v == x.v && !decide (x.e < y.b))) x = true by simp only [h4, Bool.not_false, Bool.true_or])
    exact zfacT5
   ·
    have h4' : (x.re != 4) = false := by simp [bne, h4]
    have HA4 := Lib.hid h4
    have e4 : x.re = 4 := by simpa using h4
    by_cases ht : times l x.v false ≤ times l x.v true
    ·
     have HT := Lib.hid (show decide (times l x.v true < times l x.v false) = false by simp; omega)
     have HT2 := Lib.hid (show decide (times l x.v false ≤ times l x.v true) = true by simp; omega)
     go_wp2_with fail
     clear h4 h4' ht e4 c0 c1 c2 c3 c4 c5
     refine wp_region2v (fun w w' => Below w.heap.size w w') (fun _ _ h => h.size) (fun _ => Below.refl _ _) (fun L W' => Below w0.heap.size w0 W' ∧ EvsR W' (some ⟨b, o, none⟩) n l) (ntBV l x x0 x0 x0 b o n cap i 0 0 0 w0) (fun _ => 0) [] (by kernel_rfl) (by kernel_rfl) ?_ ?_ ?_
      (.still rfl ?a0 <| .still rfl ?a1 <| .still rfl ?a2 <| .still rfl ?a3 <| .still rfl ?a4 <| .still rfl ?a5 <| .grow rfl ?a6 <| .still rfl ?a7 <| .still rfl ?a8 <| .still rfl ?a9 <| .still rfl ?a10 <| .still rfl ?a11 <| .still rfl ?a12 <| .grow rfl ?a13 <| .still rfl ?a14 <| .nil) ?_ ?_
     · exact trivial
     · exact trivial
     · exact ⟨hB.drew, hl⟩
     case a0 | a1 | a2 | a4 | a7 | a8 | a9 | a11 =>
      go_light
      intro L σ W' hcl hL hC hw
      try have e3 := wT hw 3 rfl
      try have e10 := wT hw 10 rfl
      exact zfacT0
     case a5 | a12 =>
      go_light
      intro L σ W' hcl hL hC hw
      try have e4 := wT hw 4 rfl
      try have e11 := wT hw 11 rfl
      obtain ⟨c0, c1, c2, c3, c4, c5⟩ := ev_at hC.2 hN_i HX_i.out
      exact zfacT0
     case a3 =>
      go_light
      intro L σ W' hcl hL hC hw
      have e1 := wV hw 1 rfl
      have e2 := wV hw 2 rfl
      have g1 := lo_i
      have g2 := hi_i
      exact zfacT0
     case a6 =>
      go_light
      intro L σ W' hcl hL hC hw
      have e0 := wV hw 0 rfl
      have e5 := wV hw 5 rfl
      clear hw
      have HC := Lib.hid hC
      clear hC
      clear hcl hL
      refine OpGoes.go fun K hK => ?_
      go_simp
      obtain ⟨hB, hl⟩ := HC.out
      refine (stimes_any l x.v false _ n cap _ hl hn).mono ?_
      exact zfacT1
     case a10 =>
      go_light
      intro L σ W' hcl hL hC hw
      have e8 := wV hw 8 rfl
      have e9 := wV hw 9 rfl
      have g1 := lo_i
      have g2 := hi_i
      exact zfacT0
     case a13 =>
      go_light
      intro L σ W' hcl hL hC hw
      have e7 := wV hw 7 rfl
      have e12 := wV hw 12 rfl
      clear hw
      have HC := Lib.hid hC
      clear hC
      clear hcl hL
      refine OpGoes.go fun K hK => ?_
      go_simp
      obtain ⟨hB, hl⟩ := HC.out
      refine (stimes_any l x.v true _ n cap _ hl hn).mono ?_
      exact zfacT1
     case a14 =>
      go_light
      intro L σ W' hcl hL hC hw
      have e6 := wV hw 6 rfl
      have e13 := wV hw 13 rfl
      have q0 := HT.out
      exact zfacT0
     ·
      intro L L' W' hLL hC
      obtain ⟨hB, hl⟩ := hC
      exact ⟨hB, hl⟩
     ·
      intro σ L W' hall hC hRR
      obtain ⟨hB, hl⟩ := hC
      have e14 := dV hRR 14 rfl
      clear hRR
      simp only [lexAll]
      go_simp
      go_step
      go_wp2
      go_loopw [4, 5] (fun s4 s5 W => ∃ k : Nat, k ≤ n ∧ s4 = .bool ((l.take k).any (fun y => y.re == 1 && y.v == x.v && !decide (x.e < y.b))) ∧ s5 = .int .i64 k ∧ Below w0.heap.size w0 W) (fun _ s5 _ => n - (intOf s5).toNat)
      case atStart => exact ⟨0, Nat.zero_le _, rfl, rfl, hB⟩
      case round =>
       rename_i hB_o hl_o
       clear hB hl hr
       obtain ⟨k, hkn, rfl, rfl, hB⟩ := hrel
       have hr : EvsR wr (some ⟨b, o, none⟩) n l := SlE.keep EvE.kept h (fun j _ hj => hB.block j hj)
       by_cases hkt : k < n
       ·
        obtain ⟨y, hy⟩ := evs_get hr hkt
        have HX_k := Lib.hid hy; clear hy
        have lo_k : (0 : Int) ≤ (k : Int) := by omega
        have hi_k : (k : Int) < (n : Int) := by omega
        have hN_k := hkt
        have hl := hr
        cases hs : (l.take k).any (fun y => y.re == 1 && y.v == x.v && !decide (x.e < y.b))
        ·
         have HS := Lib.hid hs; clear hs
         cases h1 : (y.re == 1)
         ·
          have HA := Lib.hid h1
          have HQ := Lib.hid (show (fun y => y.re == 1 && y.v == x.v && !decide (x.e < y.b)) y = false by simp only [h1, Bool.false_and])
          clear h1
          obtain ⟨i0_, i1_, i2_, i3_, i4_, i5_⟩ := ev_at hl hN_i HX_i.out
          obtain ⟨k0_, k1_, k2_, k3_, k4_, k5_⟩ := ev_at hl hN_k HX_k.out
          have qf0 := HA.out
          exact zfacT3
         cases h2 : (y.v == x.v)
         ·
          have HA := Lib.hid h1
          have HV := Lib.hid h2
          have HQ := Lib.hid (show (fun y => y.re == 1 && y.v == x.v && !decide (x.e < y.b)) y = false by simp only [h1, h2, Bool.false_and, Bool.and_false])
          clear h1 h2
          obtain ⟨i0_, i1_, i2_, i3_, i4_, i5_⟩ := ev_at hl hN_i HX_i.out
          obtain ⟨k0_, k1_, k2_, k3_, k4_, k5_⟩ := ev_at hl hN_k HX_k.out
          have qf0 := HA.out
          have qf1 := HV.out
          exact zfacT3
         ·
          have HA := Lib.hid h1
          have HV := Lib.hid h2
          have HQ := Lib.hid (show (fun y => y.re == 1 && y.v == x.v && !decide (x.e < y.b)) y = !decide (x.e < y.b) by simp only [h1, h2, Bool.true_and])
          clear h1 h2
          go_wp2_with fail
          refine wp_region2v (fun w w' => Below w.heap.size w w') (fun _ _ h => h.size) (fun _ => Below.refl _ _) (fun L W' => Below w0.heap.size w0 W' ∧ EvsR W' (some ⟨b, o, none⟩) n l) (niDV l x y x0 x0 b o n cap i k 0 0 w0) (fun _ => 0) [] (by kernel_rfl) (by kernel_rfl) ?_ ?_ ?_
           (.still rfl ?a0 <| .still rfl ?a1 <| .still rfl ?a2 <| .still rfl ?a3 <| .still rfl ?a4 <| .still rfl ?a5 <| .still rfl ?a6 <| .still rfl ?a7 <| .still rfl ?a8 <| .still rfl ?a9 <| .still rfl ?a10 <| .still rfl ?a11 <| .still rfl ?a12 <| .still rfl ?a13 <| .still rfl ?a14 <| .still rfl ?a15 <| .still rfl ?a16 <| .still rfl ?a17 <| .still rfl ?a18 <| .still rfl ?a19 <| .still rfl ?a20 <| .still rfl ?a21 <| .still rfl ?a22 <| .still rfl ?a23 <| .still rfl ?a24 <| .still rfl ?a25 <| .still rfl ?a26 <| .still rfl ?a27 <| .still rfl ?a28 <| .still rfl ?a29 <| .grow rfl ?a30 <| .still rfl ?a31 <| .still rfl ?a32 <| .still rfl ?a33 <| .still rfl ?a34 <| .nil) ?_ ?_
          · exact trivial
          · exact trivial
          · exact ⟨hB.drew, hl⟩
          case a0 | a1 | a2 | a3 | a5 | a8 | a9 | a10 | a12 | a14 | a15 | a17 | a20 | a21 | a22 | a23 | a26 | a27 | a31 | a32 | a33 | a34 =>
           go_light
           intro L σ W' hcl hL hC hw
           try have e0 := wT hw 0 rfl
           try have e1 := wT hw 1 rfl
           try have e4 := wT hw 4 rfl
           try have e7 := wT hw 7 rfl
           try have e8 := wT hw 8 rfl
           try have e11 := wT hw 11 rfl
           try have e16 := wT hw 16 rfl
           try have e19 := wT hw 19 rfl
           try have e20 := wT hw 20 rfl
           try have e21 := wT hw 21 rfl
           try have e30 := wT hw 30 rfl
           try have e31 := wT hw 31 rfl
           try have e32 := wT hw 32 rfl
           try have e33 := wT hw 33 rfl
           exact zfacT0
          case a6 | a13 | a29 =>
           go_light
           intro L σ W' hcl hL hC hw
           try have e1 := wT hw 1 rfl
           try have e5 := wT hw 5 rfl
           try have e8 := wT hw 8 rfl
           try have e12 := wT hw 12 rfl
           try have e21 := wT hw 21 rfl
           try have e28 := wT hw 28 rfl
           obtain ⟨c0, c1, c2, c3, c4, c5⟩ := ev_at hC.2 hN_k HX_k.out
           exact zfacT0
          case a18 | a25 =>
           go_light
           intro L σ W' hcl hL hC hw
           try have e8 := wT hw 8 rfl
           try have e17 := wT hw 17 rfl
           try have e21 := wT hw 21 rfl
           try have e24 := wT hw 24 rfl
           obtain ⟨c0, c1, c2, c3, c4, c5⟩ := ev_at hC.2 hN_i HX_i.out
           exact zfacT0
          case a4 =>
           go_light
           intro L σ W' hcl hL hC hw
           have e1 := wV hw 1 rfl
           have e2 := wV hw 2 rfl
           have e3 := wV hw 3 rfl
           have g1 := lo_k
           have g2 := hi_k
           exact zfacT0
          case a7 =>
           go_light
           intro L σ W' hcl hL hC hw
           have e1 := wV hw 1 rfl
           have e6 := wV hw 6 rfl
           have q0 := HA.out
           exact zfacT0
          case a11 =>
           go_light
           intro L σ W' hcl hL hC hw
           have e8 := wV hw 8 rfl
           have e9 := wV hw 9 rfl
           have e10 := wV hw 10 rfl
           have g1 := lo_k
           have g2 := hi_k
           exact zfacT0
          case a16 =>
           go_light
           intro L σ W' hcl hL hC hw
           have e8 := wV hw 8 rfl
           have e14 := wV hw 14 rfl
           have e15 := wV hw 15 rfl
           have g1 := lo_i
           have g2 := hi_i
           exact zfacT0
          case a19 =>
           go_light
           intro L σ W' hcl hL hC hw
           have e8 := wV hw 8 rfl
           have e13 := wV hw 13 rfl
           have e18 := wV hw 18 rfl
           have q0 := HV.out
           exact zfacT0
          case a24 =>
           go_light
           intro L σ W' hcl hL hC hw
           have e21 := wV hw 21 rfl
           have e22 := wV hw 22 rfl
           have e23 := wV hw 23 rfl
           have g1 := lo_i
           have g2 := hi_i
           exact zfacT0
          case a28 =>
           go_light
           intro L σ W' hcl hL hC hw
           have e21 := wV hw 21 rfl
           have e26 := wV hw 26 rfl
           have e27 := wV hw 27 rfl
           have g1 := lo_k
           have g2 := hi_k
           exact zfacT0
          case a30 =>
           go_light
           intro L σ W' hcl hL hC hw
           have e21 := wV hw 21 rfl
           have e25 := wV hw 25 rfl
           have e29 := wV hw 29 rfl
           clear hw
           have HC := Lib.hid hC
           clear hC
           clear hcl hL
           refine OpGoes.go fun K hK => ?_
           go_simp
           obtain ⟨hB, hl⟩ := HC.out
           refine (sahd_any x y _).mono ?_
           exact zfacT1
          ·
           intro L L' W' hLL hC
           obtain ⟨hB, hl⟩ := hC
           exact ⟨hB, hl⟩
          ·
           intro σ L W' hall hC hRR
           obtain ⟨hB, hl⟩ := hC
           have e34 := dV hRR 34 rfl
           clear hRR
           simp only [lexAll]
           go_simp
           go_step
           go_wp2
           go_roundw
           case rel => exact ⟨k + 1, by omega, by rw [any_to (p := (fun y => y.re == 1 && y.v == x.v && !decide (x.e < y.b))) HX_k.out]; rw [HS.out, HQ.out]; rfl, by go_num, hB⟩
           case measure => simp [intOf]; omega
        ·
         have HS := Lib.hid hs; clear hs
         obtain ⟨i0_, i1_, i2_, i3_, i4_, i5_⟩ := ev_at hl hN_i HX_i.out
         obtain ⟨k0_, k1_, k2_, k3_, k4_, k5_⟩ := ev_at hl hN_k HX_k.out
         go_wp2
         go_quiet (fail)
         go_wp2
         go_roundw
         case rel => exact ⟨k + 1, by omega, by rw [any_to (p := (fun y => y.re == 1 && y.v == x.v && !decide (x.e < y.b))) HX_k.out]; rw [HS.out]; rfl, by go_num, ⟨hB.os, hB.tape, hB.output, hB.size, hB.block⟩⟩
         case measure => simp [intOf]; omega
       ·
        have k1 : ¬ (k : Int) < (n : Int) := by omega
        obtain rfl : n = k := by omega
        have HK := Lib.hid (show (l.take n).any (fun y => y.re == 1 && y.v == x.v && !decide (x.e < y.b)) = l.any (fun y => y.re == 1 && y.v == x.v && !decide (x.e < y.b)) by rw [← HL.out, List.take_length])
        rw [HK.out]
        cases hs : l.any (fun y => y.re == 1 && y.v == x.v && !decide (x.e < y.b))
        ·
         have HR := Lib.hid (show nothingTwice l = false by
          have h1 : (fun x => !(x.re == 4) || (decide (times l x.v false ≤ times l x.v true) && l.any fun y => y.re == 1 && y.v == x.v && !decide (x.e < y.b))) x = false := by simp only [HA4.out, hs, Bool.and_false, Bool.not_true, Bool.or_self]
          unfold nothingTwice; rw [all_no HX_i.out h1]; rfl)
         clear hs
         go_wp2
         go_ret
         exact .mk (congrArg Value.bool HR.out.symm) hB
        ·
         have HQ := Lib.hid (show (fun x => !(x.re == 4) || (decide (times l x.v false ≤ times l x.v true) && l.any fun y => y.re == 1 && y.v == x.v && !decide (x.e < y.b))) x = true by simp only [HT2.out, hs, Bool.and_true, Bool.or_true])
         clear hs
         exact zfacT5
    ·
     have HT := Lib.hid (show decide (times l x.v true < times l x.v false) = true by simp; omega)
     have HR := Lib.hid (show nothingTwice l = false by
      have h1 : (fun x => !(x.re == 4) || (decide (times l x.v false ≤ times l x.v true) && l.any fun y => y.re == 1 && y.v == x.v && !decide (x.e < y.b))) x = false := by simp only [h4, show decide (times l x.v false ≤ times l x.v true) = false by simp; omega, Bool.false_and, Bool.not_true, Bool.or_self]
      unfold nothingTwice; rw [all_no HX_i.out h1]; rfl)
     go_wp2_with fail
     clear h4 h4' ht e4 c0 c1 c2 c3 c4 c5
     refine wp_region2v (fun w w' => Below w.heap.size w w') (fun _ _ h => h.size) (fun _ => Below.refl _ _) (fun L W' => Below w0.heap.size w0 W' ∧ EvsR W' (some ⟨b, o, none⟩) n l) (ntAV l x x0 x0 x0 b o n cap i 0 0 0 w0) (fun _ => 0) [] (by kernel_rfl) (by kernel_rfl) ?_ ?_ ?_
      (.still rfl ?a0 <| .still rfl ?a1 <| .still rfl ?a2 <| .still rfl ?a3 <| .still rfl ?a4 <| .still rfl ?a5 <| .grow rfl ?a6 <| .still rfl ?a7 <| .still rfl ?a8 <| .still rfl ?a9 <| .still rfl ?a10 <| .still rfl ?a11 <| .still rfl ?a12 <| .grow rfl ?a13 <| .still rfl ?a14 <| .nil) ?_ ?_
     · exact trivial
     · exact trivial
     · exact ⟨hB.drew, hl⟩
     case a0 | a1 | a2 | a4 | a7 | a8 | a9 | a11 =>
      go_light
      intro L σ W' hcl hL hC hw
      try have e3 := wT hw 3 rfl
      try have e10 := wT hw 10 rfl
      exact zfacT0
     case a5 | a12 =>
      go_light
      intro L σ W' hcl hL hC hw
      try have e4 := wT hw 4 rfl
      try have e11 := wT hw 11 rfl
      obtain ⟨c0, c1, c2, c3, c4, c5⟩ := ev_at hC.2 hN_i HX_i.out
      exact zfacT0
     case a3 =>
      go_light
      intro L σ W' hcl hL hC hw
      have e1 := wV hw 1 rfl
      have e2 := wV hw 2 rfl
      have g1 := lo_i
      have g2 := hi_i
      exact zfacT0
     case a6 =>
      go_light
      intro L σ W' hcl hL hC hw
      have e0 := wV hw 0 rfl
      have e5 := wV hw 5 rfl
      clear hw
      have HC := Lib.hid hC
      clear hC
      clear hcl hL
      refine OpGoes.go fun K hK => ?_
      go_simp
      obtain ⟨hB, hl⟩ := HC.out
      refine (stimes_any l x.v false _ n cap _ hl hn).mono ?_
      exact zfacT1
     case a10 =>
      go_light
      intro L σ W' hcl hL hC hw
      have e8 := wV hw 8 rfl
      have e9 := wV hw 9 rfl
      have g1 := lo_i
      have g2 := hi_i
      exact zfacT0
     case a13 =>
      go_light
      intro L σ W' hcl hL hC hw
      have e7 := wV hw 7 rfl
      have e12 := wV hw 12 rfl
      clear hw
      have HC := Lib.hid hC
      clear hC
      clear hcl hL
      refine OpGoes.go fun K hK => ?_
      go_simp
      obtain ⟨hB, hl⟩ := HC.out
      refine (stimes_any l x.v true _ n cap _ hl hn).mono ?_
      exact zfacT1
     case a14 =>
      go_light
      intro L σ W' hcl hL hC hw
      have e6 := wV hw 6 rfl
      have e13 := wV hw 13 rfl
      have q0 := HT.out
      exact zfacT0
     ·
      intro L L' W' hLL hC
      obtain ⟨hB, hl⟩ := hC
      exact ⟨hB, hl⟩
     ·
      intro σ L W' hall hC hRR
      obtain ⟨hB, hl⟩ := hC
      have e14 := dV hRR 14 rfl
      exact zfacT6
  ·
   have g1 : ¬ (i : Int) < (n : Int) := by omega
   obtain rfl : n = i := by omega
   have HV := Lib.hid (show nothingTwice l = storyOk l by
    have h1 : l.all (fun x => !(x.re == 4) || (decide (times l x.v false ≤ times l x.v true) && l.any fun y => y.re == 1 && y.v == x.v && !decide (x.e < y.b))) = true := by have := HAL.out; rw [← HL.out] at this; exact all_end this
    unfold nothingTwice; rw [h1]; rfl)
   go_wp2_with fail
   refine (sstory_any l A n cap _ hr hn).mono ?_
   rintro e w1 ⟨rfl, hb1⟩
   go_wp2
   go_ret
   exact .mk (congrArg Value.bool HV.out.symm) (bstep hB hB.size hb1)

end Go.Proofs.YtiiaimjlohpemaaGreat

