/-
 The model's NothingTwice.
-/
import Derived.Test.YtghgfbncijfocaaFacS
namespace Go.Proofs.Ytghgfbncijfocaa
set_option linter.unusedSimpArgs false
set_option linter.unusedVariables false
open Go.RowKit
set_option linter.unusedVariables false
attribute [local go_sem] OpUpon
attribute [local go_sem ↓] Go.wp_at_zero Go.wp_at_succ

def ntAV (l : List Ev) (x y z q : Ev) (b o n cap i k j BX : Nat) (w0 : World) : List Sl := [.v (.slice (some ⟨b, o, none⟩) n cap),
 .v (.slice (some ⟨b, o, none⟩) n cap),
 .v (.int .i64 ((i : Int))),
 .v (.pointer (some ⟨b, o + i * 6, none⟩)),
 .v (.pointer (some ⟨b, o + i * 6 + 2, none⟩)),
 .v (.int .i64 x.v),
 .v (.int .i64 ((times l x.v false : Int))),
 .v (.slice (some ⟨b, o, none⟩) n cap),
 .v (.slice (some ⟨b, o, none⟩) n cap),
 .v (.int .i64 ((i : Int))),
 .v (.pointer (some ⟨b, o + i * 6, none⟩)),
 .v (.pointer (some ⟨b, o + i * 6 + 2, none⟩)),
 .v (.int .i64 x.v),
 .v (.int .i64 ((times l x.v true : Int))),
 .v (.bool true)]

def ntBV (l : List Ev) (x y z q : Ev) (b o n cap i k j BX : Nat) (w0 : World) : List Sl := [.v (.slice (some ⟨b, o, none⟩) n cap),
 .v (.slice (some ⟨b, o, none⟩) n cap),
 .v (.int .i64 ((i : Int))),
 .v (.pointer (some ⟨b, o + i * 6, none⟩)),
 .v (.pointer (some ⟨b, o + i * 6 + 2, none⟩)),
 .v (.int .i64 x.v),
 .v (.int .i64 ((times l x.v false : Int))),
 .v (.slice (some ⟨b, o, none⟩) n cap),
 .v (.slice (some ⟨b, o, none⟩) n cap),
 .v (.int .i64 ((i : Int))),
 .v (.pointer (some ⟨b, o + i * 6, none⟩)),
 .v (.pointer (some ⟨b, o + i * 6 + 2, none⟩)),
 .v (.int .i64 x.v),
 .v (.int .i64 ((times l x.v true : Int))),
 .v (.bool false)]

def niAV (l : List Ev) (x y z q : Ev) (b o n cap i k j BX : Nat) (w0 : World) : List Sl := [.v (.bool true),
 .v (.bool true),
 .v undef,
 .v undef,
 .v undef,
 .v undef,
 .v undef,
 .v undef,
 .v undef,
 .v undef,
 .v undef,
 .v undef,
 .v undef,
 .v undef,
 .v undef,
 .v undef,
 .v undef,
 .v undef,
 .v undef,
 .v undef,
 .v undef,
 .v undef,
 .v undef,
 .v undef,
 .v undef,
 .v undef,
 .v undef,
 .v undef,
 .v undef,
 .v undef,
 .v undef,
 .v undef,
 .v undef,
 .v (.bool true),
 .v (.bool true)]

def niBV (l : List Ev) (x y z q : Ev) (b o n cap i k j BX : Nat) (w0 : World) : List Sl := [.v (.bool false),
 .v (.bool false),
 .v (.slice (some ⟨b, o, none⟩) n cap),
 .v (.int .i64 ((k : Int))),
 .v (.pointer (some ⟨b, o + k * 6, none⟩)),
 .v (.pointer (some ⟨b, o + k * 6 + 3, none⟩)),
 .v (.int .i64 y.re),
 .v (.bool false),
 .v (.bool false),
 .v undef,
 .v undef,
 .v undef,
 .v undef,
 .v undef,
 .v undef,
 .v undef,
 .v undef,
 .v undef,
 .v undef,
 .v undef,
 .v (.bool false),
 .v (.bool false),
 .v undef,
 .v undef,
 .v undef,
 .v undef,
 .v undef,
 .v undef,
 .v undef,
 .v undef,
 .v undef,
 .v undef,
 .v (.bool false),
 .v (.bool false),
 .v (.bool false)]

def niCV (l : List Ev) (x y z q : Ev) (b o n cap i k j BX : Nat) (w0 : World) : List Sl := [.v (.bool false),
 .v (.bool false),
 .v (.slice (some ⟨b, o, none⟩) n cap),
 .v (.int .i64 ((k : Int))),
 .v (.pointer (some ⟨b, o + k * 6, none⟩)),
 .v (.pointer (some ⟨b, o + k * 6 + 3, none⟩)),
 .v (.int .i64 y.re),
 .v (.bool true),
 .v (.bool true),
 .v (.slice (some ⟨b, o, none⟩) n cap),
 .v (.int .i64 ((k : Int))),
 .v (.pointer (some ⟨b, o + k * 6, none⟩)),
 .v (.pointer (some ⟨b, o + k * 6 + 2, none⟩)),
 .v (.int .i64 y.v),
 .v (.slice (some ⟨b, o, none⟩) n cap),
 .v (.int .i64 ((i : Int))),
 .v (.pointer (some ⟨b, o + i * 6, none⟩)),
 .v (.pointer (some ⟨b, o + i * 6 + 2, none⟩)),
 .v (.int .i64 x.v),
 .v (.bool false),
 .v (.bool false),
 .v (.bool false),
 .v undef,
 .v undef,
 .v undef,
 .v undef,
 .v undef,
 .v undef,
 .v undef,
 .v undef,
 .v undef,
 .v undef,
 .v (.bool false),
 .v (.bool false),
 .v (.bool false)]

def niDV (l : List Ev) (x y z q : Ev) (b o n cap i k j BX : Nat) (w0 : World) : List Sl := [.v (.bool false),
 .v (.bool false),
 .v (.slice (some ⟨b, o, none⟩) n cap),
 .v (.int .i64 ((k : Int))),
 .v (.pointer (some ⟨b, o + k * 6, none⟩)),
 .v (.pointer (some ⟨b, o + k * 6 + 3, none⟩)),
 .v (.int .i64 y.re),
 .v (.bool true),
 .v (.bool true),
 .v (.slice (some ⟨b, o, none⟩) n cap),
 .v (.int .i64 ((k : Int))),
 .v (.pointer (some ⟨b, o + k * 6, none⟩)),
 .v (.pointer (some ⟨b, o + k * 6 + 2, none⟩)),
 .v (.int .i64 y.v),
 .v (.slice (some ⟨b, o, none⟩) n cap),
 .v (.int .i64 ((i : Int))),
 .v (.pointer (some ⟨b, o + i * 6, none⟩)),
 .v (.pointer (some ⟨b, o + i * 6 + 2, none⟩)),
 .v (.int .i64 x.v),
 .v (.bool true),
 .v (.bool true),
 .v (.bool true),
 .v (.slice (some ⟨b, o, none⟩) n cap),
 .v (.int .i64 ((i : Int))),
 .v (.pointer (some ⟨b, o + i * 6, none⟩)),
 .v (.agg #[.int .i64 x.who, .bool x.put, .int .i64 x.v, .int .i64 x.re, .int .i64 x.b, .int .i64 x.e]),
 .v (.slice (some ⟨b, o, none⟩) n cap),
 .v (.int .i64 ((k : Int))),
 .v (.pointer (some ⟨b, o + k * 6, none⟩)),
 .v (.agg #[.int .i64 y.who, .bool y.put, .int .i64 y.v, .int .i64 y.re, .int .i64 y.b, .int .i64 y.e]),
 .v (.bool ((decide (x.e < y.b)))),
 .v (.bool ((!decide (x.e < y.b)))),
 .v (.bool ((!decide (x.e < y.b)))),
 .v (.bool ((!decide (x.e < y.b)))),
 .v (.bool ((!decide (x.e < y.b))))]

set_option maxRecDepth 100000 in
set_option maxHeartbeats 4000000 in
theorem snothing_any (l : List Ev) (A : Option Addr) (n cap : Nat) (w0 : World) (h : EvsR w0 A n l) (hn : n ≤ 1048576) :
  Calls Try.prog 8 #[.slice A n cap] w0 (RetBelow (.bool (nothingTwice l)) w0) := by
 have HL := Lib.hid h.1
 go_enter Try.func8, Try.ntmps8
 go_wp2
 go_loopw [3] (fun s3 W => ∃ i : Nat, i ≤ n ∧ s3 = .int .i64 i ∧ Below w0.heap.size w0 W ∧ (l.take i).all (fun x => !(x.re == 4) || (decide (times l x.v false ≤ times l x.v true) && l.any fun y => y.re == 1 && y.v == x.v && !decide (x.e < y.b))) = true) (fun s3 _ => n - (intOf s3).toNat)
 case atStart => exact ⟨0, Nat.zero_le _, rfl, Below.refl _ _, rfl⟩
 case round =>
  obtain ⟨i, hin, rfl, hB, hal⟩ := hrel
  have hr : EvsR wr A n l := SlE.keep EvE.kept h (fun j _ hj => hB.block j hj)
  have HAL := Lib.hid hal; clear hal
  by_cases hlt : i < n
  ·
   obtain ⟨b, o, x, rfl, hx⟩ := evs_some hr hlt
   have HX_i := Lib.hid hx; clear hx
   have lo_i : (0 : Int) ≤ (i : Int) := by omega
   have hi_i : (i : Int) < (n : Int) := by omega
   have hN_i := hlt
   have hl := hr
   obtain ⟨c0, c1, c2, c3, c4, c5⟩ := ev_at hl hN_i HX_i.out
   cases h4 : (x.re == 4)
   ·
    have h4' : (x.re != 4) = true := by simp [bne, h4]
    have HQ := Lib.hid (show (fun x => !(x.re == 4) || (decide (times l x.v false ≤ times l x.v true) && l.any fun y => y.re == 1 && y.v == x.v && !decide (x.e < y.b))) x = true by simp only [h4, Bool.not_false, Bool.true_or])
    go_wp2
    go_roundw
    case rel => exact ⟨i + 1, by omega, by go_num, hB, all_to (p := (fun x => !(x.re == 4) || (decide (times l x.v false ≤ times l x.v true) && l.any fun y => y.re == 1 && y.v == x.v && !decide (x.e < y.b)))) HX_i.out HAL.out HQ.out⟩
    case measure => simp [intOf]; omega
   ·
    have h4' : (x.re != 4) = false := by simp [bne, h4]
    have HA4 := Lib.hid h4
    have e4 : x.re = 4 := by simpa using h4
    by_cases ht : times l x.v false ≤ times l x.v true
    ·
     have HT := Lib.hid (show decide (times l x.v true < times l x.v false) = false by simp; omega)
     have HT2 := Lib.hid (show decide (times l x.v false ≤ times l x.v true) = true by simp; omega)
     go_wp2_with fail
     clear h4 h4' ht e4 c0 c1 c2 c3 c4 c5
     refine wp_region2v (fun w w' => Below w.heap.size w w') (fun _ _ h => h.size) (fun _ => Below.refl _ _) (fun L W' => Below w0.heap.size w0 W' ∧ EvsR W' (some ⟨b, o, none⟩) n l) (ntBV l x x0 x0 x0 b o n cap i 0 0 0 w0) (fun _ => 0) [] (by kernel_rfl) (by kernel_rfl) ?_ ?_ ?_
      (.still rfl ?a0 <| .still rfl ?a1 <| .still rfl ?a2 <| .still rfl ?a3 <| .still rfl ?a4 <| .still rfl ?a5 <| .grow rfl ?a6 <| .still rfl ?a7 <| .still rfl ?a8 <| .still rfl ?a9 <| .still rfl ?a10 <| .still rfl ?a11 <| .still rfl ?a12 <| .grow rfl ?a13 <| .still rfl ?a14 <| .nil) ?_ ?_
     · exact trivial
     · exact trivial
     · exact ⟨hB.drew, hl⟩
     case a0 | a1 | a2 | a4 | a7 | a8 | a9 | a11 =>
      go_light
      intro L σ W' hcl hL hC hw
      try have e3 := wT hw 3 rfl
      try have e10 := wT hw 10 rfl
      clear hw hcl hL hC
      refine OpGoes.go fun K hK => ?_
      go_simp
      exact hK _ _ ⟨rfl, rfl⟩
     case a5 | a12 =>
      go_light
      intro L σ W' hcl hL hC hw
      try have e4 := wT hw 4 rfl
      try have e11 := wT hw 11 rfl
      obtain ⟨c0, c1, c2, c3, c4, c5⟩ := ev_at hC.2 hN_i HX_i.out
      clear hw hcl hL hC
      refine OpGoes.go fun K hK => ?_
      go_simp
      exact hK _ _ ⟨rfl, rfl⟩
     case a3 =>
      go_light
      intro L σ W' hcl hL hC hw
      have e1 := wV hw 1 rfl
      have e2 := wV hw 2 rfl
      have g1 := lo_i
      have g2 := hi_i
      clear hw hcl hL hC
      refine OpGoes.go fun K hK => ?_
      go_simp
      exact hK _ _ ⟨rfl, rfl⟩
     case a6 =>
      go_light
      intro L σ W' hcl hL hC hw
      have e0 := wV hw 0 rfl
      have e5 := wV hw 5 rfl
      clear hw
      have HC := Lib.hid hC
      clear hC
      clear hcl hL
      refine OpGoes.go fun K hK => ?_
      go_simp
      obtain ⟨hB, hl⟩ := HC.out
      refine (stimes_any l x.v false _ n cap _ hl hn).mono ?_
      rintro e w1 ⟨rfl, hb1⟩
      exact ⟨_, rfl, hK _ _ ⟨⟨bstep hB hB.size hb1, hl.below hb1⟩, rfl, hb1⟩⟩
     case a10 =>
      go_light
      intro L σ W' hcl hL hC hw
      have e8 := wV hw 8 rfl
      have e9 := wV hw 9 rfl
      have g1 := lo_i
      have g2 := hi_i
      clear hw hcl hL hC
      refine OpGoes.go fun K hK => ?_
      go_simp
      exact hK _ _ ⟨rfl, rfl⟩
     case a13 =>
      go_light
      intro L σ W' hcl hL hC hw
      have e7 := wV hw 7 rfl
      have e12 := wV hw 12 rfl
      clear hw
      have HC := Lib.hid hC
      clear hC
      clear hcl hL
      refine OpGoes.go fun K hK => ?_
      go_simp
      obtain ⟨hB, hl⟩ := HC.out
      refine (stimes_any l x.v true _ n cap _ hl hn).mono ?_
      rintro e w1 ⟨rfl, hb1⟩
      exact ⟨_, rfl, hK _ _ ⟨⟨bstep hB hB.size hb1, hl.below hb1⟩, rfl, hb1⟩⟩
     case a14 =>
      go_light
      intro L σ W' hcl hL hC hw
      have e6 := wV hw 6 rfl
      have e13 := wV hw 13 rfl
      have q0 := HT.out
      clear hw hcl hL hC
      refine OpGoes.go fun K hK => ?_
      go_simp
      exact hK _ _ ⟨rfl, rfl⟩
     ·
      intro L L' W' hLL hC
      obtain ⟨hB, hl⟩ := hC
      exact ⟨hB, hl⟩
     ·
      intro σ L W' hall hC hRR
      obtain ⟨hB, hl⟩ := hC
      have e14 := dV hRR 14 rfl
      clear hRR
      simp only [lexAll]
      go_simp
      go_step
      go_wp2
      go_loopw [4, 5] (fun s4 s5 W => ∃ k : Nat, k ≤ n ∧ s4 = .bool ((l.take k).any (fun y => y.re == 1 && y.v == x.v && !decide (x.e < y.b))) ∧ s5 = .int .i64 k ∧ Below w0.heap.size w0 W) (fun _ s5 _ => n - (intOf s5).toNat)
      case atStart => exact ⟨0, Nat.zero_le _, rfl, rfl, hB⟩
      case round =>
       rename_i hB_o hl_o
       clear hB hl hr
       obtain ⟨k, hkn, rfl, rfl, hB⟩ := hrel
       have hr : EvsR wr (some ⟨b, o, none⟩) n l := SlE.keep EvE.kept h (fun j _ hj => hB.block j hj)
       by_cases hkt : k < n
       ·
        obtain ⟨y, hy⟩ := evs_get hr hkt
        have HX_k := Lib.hid hy; clear hy
        have lo_k : (0 : Int) ≤ (k : Int) := by omega
        have hi_k : (k : Int) < (n : Int) := by omega
        have hN_k := hkt
        have hl := hr
        cases hs : (l.take k).any (fun y => y.re == 1 && y.v == x.v && !decide (x.e < y.b))
        ·
         have HS := Lib.hid hs; clear hs
         cases h1 : (y.re == 1)
         ·
          have HA := Lib.hid h1
          have HQ := Lib.hid (show (fun y => y.re == 1 && y.v == x.v && !decide (x.e < y.b)) y = false by simp only [h1, Bool.false_and])
          clear h1
          go_wp2_with fail
          refine wp_region2v (fun w w' => Below w.heap.size w w') (fun _ _ h => h.size) (fun _ => Below.refl _ _) (fun L W' => Below w0.heap.size w0 W' ∧ EvsR W' (some ⟨b, o, none⟩) n l) (niBV l x y x0 x0 b o n cap i k 0 0 w0) (fun _ => 0) [] (by kernel_rfl) (by kernel_rfl) ?_ ?_ ?_
           (.still rfl ?a0 <| .still rfl ?a1 <| .still rfl ?a2 <| .still rfl ?a3 <| .still rfl ?a4 <| .still rfl ?a5 <| .still rfl ?a6 <| .still rfl ?a7 <| .still rfl ?a8 <| .still rfl ?a9 <| .still rfl ?a10 <| .still rfl ?a11 <| .still rfl ?a12 <| .still rfl ?a13 <| .still rfl ?a14 <| .still rfl ?a15 <| .still rfl ?a16 <| .still rfl ?a17 <| .still rfl ?a18 <| .still rfl ?a19 <| .still rfl ?a20 <| .still rfl ?a21 <| .still rfl ?a22 <| .still rfl ?a23 <| .still rfl ?a24 <| .still rfl ?a25 <| .still rfl ?a26 <| .still rfl ?a27 <| .still rfl ?a28 <| .still rfl ?a29 <| .still rfl ?a30 <| .still rfl ?a31 <| .still rfl ?a32 <| .still rfl ?a33 <| .still rfl ?a34 <| .nil) ?_ ?_
          · exact trivial
          · exact trivial
          · exact ⟨hB.drew, hl⟩
          case a0 | a1 | a2 | a3 | a5 | a8 | a9 | a10 | a11 | a12 | a13 | a14 | a15 | a16 | a17 | a18 | a19 | a20 | a21 | a22 | a23 | a24 | a25 | a26 | a27 | a28 | a29 | a30 | a31 | a32 | a33 | a34 =>
           go_light
           intro L σ W' hcl hL hC hw
           try have e0 := wT hw 0 rfl
           try have e1 := wT hw 1 rfl
           try have e4 := wT hw 4 rfl
           try have e7 := wT hw 7 rfl
           try have e8 := wT hw 8 rfl
           try have e9 := wT hw 9 rfl
           try have e10 := wT hw 10 rfl
           try have e11 := wT hw 11 rfl
           try have e12 := wT hw 12 rfl
           try have e13 := wT hw 13 rfl
           try have e14 := wT hw 14 rfl
           try have e15 := wT hw 15 rfl
           try have e16 := wT hw 16 rfl
           try have e17 := wT hw 17 rfl
           try have e18 := wT hw 18 rfl
           try have e19 := wT hw 19 rfl
           try have e20 := wT hw 20 rfl
           try have e21 := wT hw 21 rfl
           try have e22 := wT hw 22 rfl
           try have e23 := wT hw 23 rfl
           try have e24 := wT hw 24 rfl
           try have e25 := wT hw 25 rfl
           try have e26 := wT hw 26 rfl
           try have e27 := wT hw 27 rfl
           try have e28 := wT hw 28 rfl
           try have e29 := wT hw 29 rfl
           try have e30 := wT hw 30 rfl
           try have e31 := wT hw 31 rfl
           try have e32 := wT hw 32 rfl
           try have e33 := wT hw 33 rfl
           clear hw hcl hL hC
           refine OpGoes.go fun K hK => ?_
           go_simp
           exact hK _ _ ⟨rfl, rfl⟩
          case a6 =>
           go_light
           intro L σ W' hcl hL hC hw
           have e1 := wV hw 1 rfl
           have e5 := wV hw 5 rfl
           obtain ⟨c0, c1, c2, c3, c4, c5⟩ := ev_at hC.2 hN_k HX_k.out
           clear hw hcl hL hC
           refine OpGoes.go fun K hK => ?_
           go_simp
           exact hK _ _ ⟨rfl, rfl⟩
          case a4 =>
           go_light
           intro L σ W' hcl hL hC hw
           have e1 := wV hw 1 rfl
           have e2 := wV hw 2 rfl
           have e3 := wV hw 3 rfl
           have g1 := lo_k
           have g2 := hi_k
           clear hw hcl hL hC
           refine OpGoes.go fun K hK => ?_
           go_simp
           exact hK _ _ ⟨rfl, rfl⟩
          case a7 =>
           go_light
           intro L σ W' hcl hL hC hw
           have e1 := wV hw 1 rfl
           have e6 := wV hw 6 rfl
           have q0 := HA.out
           clear hw hcl hL hC
           refine OpGoes.go fun K hK => ?_
           go_simp
           exact hK _ _ ⟨rfl, rfl⟩
          ·
           intro L L' W' hLL hC
           obtain ⟨hB, hl⟩ := hC
           exact ⟨hB, hl⟩
          ·
           intro σ L W' hall hC hRR
           obtain ⟨hB, hl⟩ := hC
           have e34 := dV hRR 34 rfl
           clear hRR
           simp only [lexAll]
           go_simp
           go_step
           go_wp2
           go_roundw
           case rel => exact ⟨k + 1, by omega, by rw [any_to (p := (fun y => y.re == 1 && y.v == x.v && !decide (x.e < y.b))) HX_k.out]; rw [HS.out, HQ.out]; rfl, by go_num, hB⟩
           case measure => simp [intOf]; omega
         cases h2 : (y.v == x.v)
         ·
          have HA := Lib.hid h1
          have HV := Lib.hid h2
          have HQ := Lib.hid (show (fun y => y.re == 1 && y.v == x.v && !decide (x.e < y.b)) y = false by simp only [h1, h2, Bool.false_and, Bool.and_false])
          clear h1 h2
          go_wp2_with fail
          refine wp_region2v (fun w w' => Below w.heap.size w w') (fun _ _ h => h.size) (fun _ => Below.refl _ _) (fun L W' => Below w0.heap.size w0 W' ∧ EvsR W' (some ⟨b, o, none⟩) n l) (niCV l x y x0 x0 b o n cap i k 0 0 w0) (fun _ => 0) [] (by kernel_rfl) (by kernel_rfl) ?_ ?_ ?_
           (.still rfl ?a0 <| .still rfl ?a1 <| .still rfl ?a2 <| .still rfl ?a3 <| .still rfl ?a4 <| .still rfl ?a5 <| .still rfl ?a6 <| .still rfl ?a7 <| .still rfl ?a8 <| .still rfl ?a9 <| .still rfl ?a10 <| .still rfl ?a11 <| .still rfl ?a12 <| .still rfl ?a13 <| .still rfl ?a14 <| .still rfl ?a15 <| .still rfl ?a16 <| .still rfl ?a17 <| .still rfl ?a18 <| .still rfl ?a19 <| .still rfl ?a20 <| .still rfl ?a21 <| .still rfl ?a22 <| .still rfl ?a23 <| .still rfl ?a24 <| .still rfl ?a25 <| .still rfl ?a26 <| .still rfl ?a27 <| .still rfl ?a28 <| .still rfl ?a29 <| .still rfl ?a30 <| .still rfl ?a31 <| .still rfl ?a32 <| .still rfl ?a33 <| .still rfl ?a34 <| .nil) ?_ ?_
          · exact trivial
          · exact trivial
          · exact ⟨hB.drew, hl⟩
          case a0 | a1 | a2 | a3 | a5 | a8 | a9 | a10 | a12 | a14 | a15 | a17 | a20 | a21 | a22 | a23 | a24 | a25 | a26 | a27 | a28 | a29 | a30 | a31 | a32 | a33 | a34 =>
           go_light
           intro L σ W' hcl hL hC hw
           try have e0 := wT hw 0 rfl
           try have e1 := wT hw 1 rfl
           try have e4 := wT hw 4 rfl
           try have e7 := wT hw 7 rfl
           try have e8 := wT hw 8 rfl
           try have e11 := wT hw 11 rfl
           try have e16 := wT hw 16 rfl
           try have e19 := wT hw 19 rfl
           try have e20 := wT hw 20 rfl
           try have e21 := wT hw 21 rfl
           try have e22 := wT hw 22 rfl
           try have e23 := wT hw 23 rfl
           try have e24 := wT hw 24 rfl
           try have e25 := wT hw 25 rfl
           try have e26 := wT hw 26 rfl
           try have e27 := wT hw 27 rfl
           try have e28 := wT hw 28 rfl
           try have e29 := wT hw 29 rfl
           try have e30 := wT hw 30 rfl
           try have e31 := wT hw 31 rfl
           try have e32 := wT hw 32 rfl
           try have e33 := wT hw 33 rfl
           clear hw hcl hL hC
           refine OpGoes.go fun K hK => ?_
           go_simp
           exact hK _ _ ⟨rfl, rfl⟩
          case a6 | a13 =>
           go_light
           intro L σ W' hcl hL hC hw
           try have e1 := wT hw 1 rfl
           try have e5 := wT hw 5 rfl
           try have e8 := wT hw 8 rfl
           try have e12 := wT hw 12 rfl
           obtain ⟨c0, c1, c2, c3, c4, c5⟩ := ev_at hC.2 hN_k HX_k.out
           clear hw hcl hL hC
           refine OpGoes.go fun K hK => ?_
           go_simp
           exact hK _ _ ⟨rfl, rfl⟩
          case a18 =>
           go_light
           intro L σ W' hcl hL hC hw
           have e8 := wV hw 8 rfl
           have e17 := wV hw 17 rfl
           obtain ⟨c0, c1, c2, c3, c4, c5⟩ := ev_at hC.2 hN_i HX_i.out
           clear hw hcl hL hC
           refine OpGoes.go fun K hK => ?_
           go_simp
           exact hK _ _ ⟨rfl, rfl⟩
          case a4 =>
           go_light
           intro L σ W' hcl hL hC hw
           have e1 := wV hw 1 rfl
           have e2 := wV hw 2 rfl
           have e3 := wV hw 3 rfl
           have g1 := lo_k
           have g2 := hi_k
           clear hw hcl hL hC
           refine OpGoes.go fun K hK => ?_
           go_simp
           exact hK _ _ ⟨rfl, rfl⟩
          case a7 =>
           go_light
           intro L σ W' hcl hL hC hw
           have e1 := wV hw 1 rfl
           have e6 := wV hw 6 rfl
           have q0 := HA.out
           clear hw hcl hL hC
           refine OpGoes.go fun K hK => ?_
           go_simp
           exact hK _ _ ⟨rfl, rfl⟩
          case a11 =>
           go_light
           intro L σ W' hcl hL hC hw
           have e8 := wV hw 8 rfl
           have e9 := wV hw 9 rfl
           have e10 := wV hw 10 rfl
           have g1 := lo_k
           have g2 := hi_k
           clear hw hcl hL hC
           refine OpGoes.go fun K hK => ?_
           go_simp
           exact hK _ _ ⟨rfl, rfl⟩
          case a16 =>
           go_light
           intro L σ W' hcl hL hC hw
           have e8 := wV hw 8 rfl
           have e14 := wV hw 14 rfl
           have e15 := wV hw 15 rfl
           have g1 := lo_i
           have g2 := hi_i
           clear hw hcl hL hC
           refine OpGoes.go fun K hK => ?_
           go_simp
           exact hK _ _ ⟨rfl, rfl⟩
          case a19 =>
           go_light
           intro L σ W' hcl hL hC hw
           have e8 := wV hw 8 rfl
           have e13 := wV hw 13 rfl
           have e18 := wV hw 18 rfl
           have q0 := HV.out
           clear hw hcl hL hC
           refine OpGoes.go fun K hK => ?_
           go_simp
           exact hK _ _ ⟨rfl, rfl⟩
          ·
           intro L L' W' hLL hC
           obtain ⟨hB, hl⟩ := hC
           exact ⟨hB, hl⟩
          ·
           intro σ L W' hall hC hRR
           obtain ⟨hB, hl⟩ := hC
           have e34 := dV hRR 34 rfl
           clear hRR
           simp only [lexAll]
           go_simp
           go_step
           go_wp2
           go_roundw
           case rel => exact ⟨k + 1, by omega, by rw [any_to (p := (fun y => y.re == 1 && y.v == x.v && !decide (x.e < y.b))) HX_k.out]; rw [HS.out, HQ.out]; rfl, by go_num, hB⟩
           case measure => simp [intOf]; omega
         ·
          have HA := Lib.hid h1
          have HV := Lib.hid h2
          have HQ := Lib.hid (show (fun y => y.re == 1 && y.v == x.v && !decide (x.e < y.b)) y = !decide (x.e < y.b) by simp only [h1, h2, Bool.true_and])
          clear h1 h2
          go_wp2_with fail
          refine wp_region2v (fun w w' => Below w.heap.size w w') (fun _ _ h => h.size) (fun _ => Below.refl _ _) (fun L W' => Below w0.heap.size w0 W' ∧ EvsR W' (some ⟨b, o, none⟩) n l) (niDV l x y x0 x0 b o n cap i k 0 0 w0) (fun _ => 0) [] (by kernel_rfl) (by kernel_rfl) ?_ ?_ ?_
           (.still rfl ?a0 <| .still rfl ?a1 <| .still rfl ?a2 <| .still rfl ?a3 <| .still rfl ?a4 <| .still rfl ?a5 <| .still rfl ?a6 <| .still rfl ?a7 <| .still rfl ?a8 <| .still rfl ?a9 <| .still rfl ?a10 <| .still rfl ?a11 <| .still rfl ?a12 <| .still rfl ?a13 <| .still rfl ?a14 <| .still rfl ?a15 <| .still rfl ?a16 <| .still rfl ?a17 <| .still rfl ?a18 <| .still rfl ?a19 <| .still rfl ?a20 <| .still rfl ?a21 <| .still rfl ?a22 <| .still rfl ?a23 <| .still rfl ?a24 <| .still rfl ?a25 <| .still rfl ?a26 <| .still rfl ?a27 <| .still rfl ?a28 <| .still rfl ?a29 <| .grow rfl ?a30 <| .still rfl ?a31 <| .still rfl ?a32 <| .still rfl ?a33 <| .still rfl ?a34 <| .nil) ?_ ?_
          · exact trivial
          · exact trivial
          · exact ⟨hB.drew, hl⟩
          case a0 | a1 | a2 | a3 | a5 | a8 | a9 | a10 | a12 | a14 | a15 | a17 | a20 | a21 | a22 | a23 | a26 | a27 | a31 | a32 | a33 | a34 =>
           go_light
           intro L σ W' hcl hL hC hw
           try have e0 := wT hw 0 rfl
           try have e1 := wT hw 1 rfl
           try have e4 := wT hw 4 rfl
           try have e7 := wT hw 7 rfl
           try have e8 := wT hw 8 rfl
           try have e11 := wT hw 11 rfl
           try have e16 := wT hw 16 rfl
           try have e19 := wT hw 19 rfl
           try have e20 := wT hw 20 rfl
           try have e21 := wT hw 21 rfl
           try have e30 := wT hw 30 rfl
           try have e31 := wT hw 31 rfl
           try have e32 := wT hw 32 rfl
           try have e33 := wT hw 33 rfl
           clear hw hcl hL hC
           refine OpGoes.go fun K hK => ?_
           go_simp
           exact hK _ _ ⟨rfl, rfl⟩
          case a6 | a13 | a29 =>
           go_light
           intro L σ W' hcl hL hC hw
           try have e1 := wT hw 1 rfl
           try have e5 := wT hw 5 rfl
           try have e8 := wT hw 8 rfl
           try have e12 := wT hw 12 rfl
           try have e21 := wT hw 21 rfl
           try have e28 := wT hw 28 rfl
           obtain ⟨c0, c1, c2, c3, c4, c5⟩ := ev_at hC.2 hN_k HX_k.out
           clear hw hcl hL hC
           refine OpGoes.go fun K hK => ?_
           go_simp
           exact hK _ _ ⟨rfl, rfl⟩
          case a18 | a25 =>
           go_light
           intro L σ W' hcl hL hC hw
           try have e8 := wT hw 8 rfl
           try have e17 := wT hw 17 rfl
           try have e21 := wT hw 21 rfl
           try have e24 := wT hw 24 rfl
           obtain ⟨c0, c1, c2, c3, c4, c5⟩ := ev_at hC.2 hN_i HX_i.out
           clear hw hcl hL hC
           refine OpGoes.go fun K hK => ?_
           go_simp
           exact hK _ _ ⟨rfl, rfl⟩
          case a4 =>
           go_light
           intro L σ W' hcl hL hC hw
           have e1 := wV hw 1 rfl
           have e2 := wV hw 2 rfl
           have e3 := wV hw 3 rfl
           have g1 := lo_k
           have g2 := hi_k
           clear hw hcl hL hC
           refine OpGoes.go fun K hK => ?_
           go_simp
           exact hK _ _ ⟨rfl, rfl⟩
          case a7 =>
           go_light
           intro L σ W' hcl hL hC hw
           have e1 := wV hw 1 rfl
           have e6 := wV hw 6 rfl
           have q0 := HA.out
           clear hw hcl hL hC
           refine OpGoes.go fun K hK => ?_
           go_simp
           exact hK _ _ ⟨rfl, rfl⟩
          case a11 =>
           go_light
           intro L σ W' hcl hL hC hw
           have e8 := wV hw 8 rfl
           have e9 := wV hw 9 rfl
           have e10 := wV hw 10 rfl
           have g1 := lo_k
           have g2 := hi_k
           clear hw hcl hL hC
           refine OpGoes.go fun K hK => ?_
           go_simp
           exact hK _ _ ⟨rfl, rfl⟩
          case a16 =>
           go_light
           intro L σ W' hcl hL hC hw
           have e8 := wV hw 8 rfl
           have e14 := wV hw 14 rfl
           have e15 := wV hw 15 rfl
           have g1 := lo_i
           have g2 := hi_i
           clear hw hcl hL hC
           refine OpGoes.go fun K hK => ?_
           go_simp
           exact hK _ _ ⟨rfl, rfl⟩
          case a19 =>
           go_light
           intro L σ W' hcl hL hC hw
           have e8 := wV hw 8 rfl
           have e13 := wV hw 13 rfl
           have e18 := wV hw 18 rfl
           have q0 := HV.out
           clear hw hcl hL hC
           refine OpGoes.go fun K hK => ?_
           go_simp
           exact hK _ _ ⟨rfl, rfl⟩
          case a24 =>
           go_light
           intro L σ W' hcl hL hC hw
           have e21 := wV hw 21 rfl
           have e22 := wV hw 22 rfl
           have e23 := wV hw 23 rfl
           have g1 := lo_i
           have g2 := hi_i
           clear hw hcl hL hC
           refine OpGoes.go fun K hK => ?_
           go_simp
           exact hK _ _ ⟨rfl, rfl⟩
          case a28 =>
           go_light
           intro L σ W' hcl hL hC hw
           have e21 := wV hw 21 rfl
           have e26 := wV hw 26 rfl
           have e27 := wV hw 27 rfl
           have g1 := lo_k
           have g2 := hi_k
           clear hw hcl hL hC
           refine OpGoes.go fun K hK => ?_
           go_simp
           exact hK _ _ ⟨rfl, rfl⟩
          case a30 =>
           go_light
           intro L σ W' hcl hL hC hw
           have e21 := wV hw 21 rfl
           have e25 := wV hw 25 rfl
           have e29 := wV hw 29 rfl
           clear hw
           have HC := Lib.hid hC
           clear hC
           clear hcl hL
           refine OpGoes.go fun K hK => ?_
           go_simp
           obtain ⟨hB, hl⟩ := HC.out
           refine (sahd_any x y _).mono ?_
           rintro e w1 ⟨rfl, hb1⟩
           exact ⟨_, rfl, hK _ _ ⟨⟨bstep hB hB.size hb1, hl.below hb1⟩, rfl, hb1⟩⟩
          ·
           intro L L' W' hLL hC
           obtain ⟨hB, hl⟩ := hC
           exact ⟨hB, hl⟩
          ·
           intro σ L W' hall hC hRR
           obtain ⟨hB, hl⟩ := hC
           have e34 := dV hRR 34 rfl
           clear hRR
           simp only [lexAll]
           go_simp
           go_step
           go_wp2
           go_roundw
           case rel => exact ⟨k + 1, by omega, by rw [any_to (p := (fun y => y.re == 1 && y.v == x.v && !decide (x.e < y.b))) HX_k.out]; rw [HS.out, HQ.out]; rfl, by go_num, hB⟩
           case measure => simp [intOf]; omega
        ·
         have HS := Lib.hid hs; clear hs
         go_wp2_with fail
         refine wp_region2v (fun w w' => Below w.heap.size w w') (fun _ _ h => h.size) (fun _ => Below.refl _ _) (fun L W' => Below w0.heap.size w0 W' ∧ EvsR W' (some ⟨b, o, none⟩) n l) (niAV l x y x0 x0 b o n cap i k 0 0 w0) (fun _ => 0) [] (by kernel_rfl) (by kernel_rfl) ?_ ?_ ?_
          (.still rfl ?a0 <| .still rfl ?a1 <| .still rfl ?a2 <| .still rfl ?a3 <| .still rfl ?a4 <| .still rfl ?a5 <| .still rfl ?a6 <| .still rfl ?a7 <| .still rfl ?a8 <| .still rfl ?a9 <| .still rfl ?a10 <| .still rfl ?a11 <| .still rfl ?a12 <| .still rfl ?a13 <| .still rfl ?a14 <| .still rfl ?a15 <| .still rfl ?a16 <| .still rfl ?a17 <| .still rfl ?a18 <| .still rfl ?a19 <| .still rfl ?a20 <| .still rfl ?a21 <| .still rfl ?a22 <| .still rfl ?a23 <| .still rfl ?a24 <| .still rfl ?a25 <| .still rfl ?a26 <| .still rfl ?a27 <| .still rfl ?a28 <| .still rfl ?a29 <| .still rfl ?a30 <| .still rfl ?a31 <| .still rfl ?a32 <| .still rfl ?a33 <| .still rfl ?a34 <| .nil) ?_ ?_
         · exact trivial
         · exact trivial
         · exact ⟨hB.drew, hl⟩
         case a0 | a1 | a2 | a3 | a4 | a5 | a6 | a7 | a8 | a20 | a21 | a32 | a33 | a34 =>
          go_light
          intro L σ W' hcl hL hC hw
          try have e0 := wT hw 0 rfl
          try have e1 := wT hw 1 rfl
          try have e2 := wT hw 2 rfl
          try have e3 := wT hw 3 rfl
          try have e4 := wT hw 4 rfl
          try have e5 := wT hw 5 rfl
          try have e6 := wT hw 6 rfl
          try have e7 := wT hw 7 rfl
          try have e8 := wT hw 8 rfl
          try have e19 := wT hw 19 rfl
          try have e20 := wT hw 20 rfl
          try have e21 := wT hw 21 rfl
          try have e31 := wT hw 31 rfl
          try have e32 := wT hw 32 rfl
          try have e33 := wT hw 33 rfl
          clear hw hcl hL hC
          refine OpGoes.go fun K hK => ?_
          go_simp
          exact hK _ _ ⟨rfl, rfl⟩
         case a9 | a10 | a11 | a12 | a13 | a14 | a15 | a16 | a17 | a18 | a19 | a22 | a23 | a24 | a25 | a26 | a27 | a28 | a29 | a30 | a31 =>
          go_light
          intro L σ W' hcl hL hC hw
          try have e8 := wT hw 8 rfl
          try have e9 := wT hw 9 rfl
          try have e10 := wT hw 10 rfl
          try have e11 := wT hw 11 rfl
          try have e12 := wT hw 12 rfl
          try have e13 := wT hw 13 rfl
          try have e14 := wT hw 14 rfl
          try have e15 := wT hw 15 rfl
          try have e16 := wT hw 16 rfl
          try have e17 := wT hw 17 rfl
          try have e18 := wT hw 18 rfl
          try have e21 := wT hw 21 rfl
          try have e22 := wT hw 22 rfl
          try have e23 := wT hw 23 rfl
          try have e24 := wT hw 24 rfl
          try have e25 := wT hw 25 rfl
          try have e26 := wT hw 26 rfl
          try have e27 := wT hw 27 rfl
          try have e28 := wT hw 28 rfl
          try have e29 := wT hw 29 rfl
          try have e30 := wT hw 30 rfl
          clear hw hcl hL hC
          refine OpGoes.go fun K hK => ?_
          go_simp
          exact ⟨fun h => (by cases h), fun _ => hK _ _ ⟨rfl, rfl⟩⟩
         ·
          intro L L' W' hLL hC
          obtain ⟨hB, hl⟩ := hC
          exact ⟨hB, hl⟩
         ·
          intro σ L W' hall hC hRR
          obtain ⟨hB, hl⟩ := hC
          have e34 := dV hRR 34 rfl
          clear hRR
          simp only [lexAll]
          go_simp
          go_step
          go_wp2
          go_roundw
          case rel => exact ⟨k + 1, by omega, by rw [any_to (p := (fun y => y.re == 1 && y.v == x.v && !decide (x.e < y.b))) HX_k.out]; rw [HS.out]; rfl, by go_num, hB⟩
          case measure => simp [intOf]; omega
       ·
        have k1 : ¬ (k : Int) < (n : Int) := by omega
        obtain rfl : n = k := by omega
        have HK := Lib.hid (show (l.take n).any (fun y => y.re == 1 && y.v == x.v && !decide (x.e < y.b)) = l.any (fun y => y.re == 1 && y.v == x.v && !decide (x.e < y.b)) by rw [← HL.out, List.take_length])
        rw [HK.out]
        cases hs : l.any (fun y => y.re == 1 && y.v == x.v && !decide (x.e < y.b))
        ·
         have HR := Lib.hid (show nothingTwice l = false by
          have h1 : (fun x => !(x.re == 4) || (decide (times l x.v false ≤ times l x.v true) && l.any fun y => y.re == 1 && y.v == x.v && !decide (x.e < y.b))) x = false := by simp only [HA4.out, hs, Bool.and_false, Bool.not_true, Bool.or_self]
          unfold nothingTwice; rw [all_no HX_i.out h1]; rfl)
         clear hs
         go_wp2
         go_ret
         exact .mk (congrArg Value.bool HR.out.symm) hB
        ·
         have HQ := Lib.hid (show (fun x => !(x.re == 4) || (decide (times l x.v false ≤ times l x.v true) && l.any fun y => y.re == 1 && y.v == x.v && !decide (x.e < y.b))) x = true by simp only [HT2.out, hs, Bool.and_true, Bool.or_true])
         clear hs
         go_wp2
         go_roundw
         case rel => exact ⟨i + 1, by omega, by go_num, hB, all_to (p := (fun x => !(x.re == 4) || (decide (times l x.v false ≤ times l x.v true) && l.any fun y => y.re == 1 && y.v == x.v && !decide (x.e < y.b)))) HX_i.out HAL.out HQ.out⟩
         case measure => simp [intOf]; omega
    ·
     have HT := Lib.hid (show decide (times l x.v true < times l x.v false) = true by simp; omega)
     have HR := Lib.hid (show nothingTwice l = false by
      have h1 : (fun x => !(x.re == 4) || (decide (times l x.v false ≤ times l x.v true) && l.any fun y => y.re == 1 && y.v == x.v && !decide (x.e < y.b))) x = false := by simp only [h4, show decide (times l x.v false ≤ times l x.v true) = false by simp; omega, Bool.false_and, Bool.not_true, Bool.or_self]
      unfold nothingTwice; rw [all_no HX_i.out h1]; rfl)
     go_wp2_with fail
     clear h4 h4' ht e4 c0 c1 c2 c3 c4 c5
     refine wp_region2v (fun w w' => Below w.heap.size w w') (fun _ _ h => h.size) (fun _ => Below.refl _ _) (fun L W' => Below w0.heap.size w0 W' ∧ EvsR W' (some ⟨b, o, none⟩) n l) (ntAV l x x0 x0 x0 b o n cap i 0 0 0 w0) (fun _ => 0) [] (by kernel_rfl) (by kernel_rfl) ?_ ?_ ?_
      (.still rfl ?a0 <| .still rfl ?a1 <| .still rfl ?a2 <| .still rfl ?a3 <| .still rfl ?a4 <| .still rfl ?a5 <| .grow rfl ?a6 <| .still rfl ?a7 <| .still rfl ?a8 <| .still rfl ?a9 <| .still rfl ?a10 <| .still rfl ?a11 <| .still rfl ?a12 <| .grow rfl ?a13 <| .still rfl ?a14 <| .nil) ?_ ?_
     · exact trivial
     · exact trivial
     · exact ⟨hB.drew, hl⟩
     case a0 | a1 | a2 | a4 | a7 | a8 | a9 | a11 =>
      go_light
      intro L σ W' hcl hL hC hw
      try have e3 := wT hw 3 rfl
      try have e10 := wT hw 10 rfl
      clear hw hcl hL hC
      refine OpGoes.go fun K hK => ?_
      go_simp
      exact hK _ _ ⟨rfl, rfl⟩
     case a5 | a12 =>
      go_light
      intro L σ W' hcl hL hC hw
      try have e4 := wT hw 4 rfl
      try have e11 := wT hw 11 rfl
      obtain ⟨c0, c1, c2, c3, c4, c5⟩ := ev_at hC.2 hN_i HX_i.out
      clear hw hcl hL hC
      refine OpGoes.go fun K hK => ?_
      go_simp
      exact hK _ _ ⟨rfl, rfl⟩
     case a3 =>
      go_light
      intro L σ W' hcl hL hC hw
      have e1 := wV hw 1 rfl
      have e2 := wV hw 2 rfl
      have g1 := lo_i
      have g2 := hi_i
      clear hw hcl hL hC
      refine OpGoes.go fun K hK => ?_
      go_simp
      exact hK _ _ ⟨rfl, rfl⟩
     case a6 =>
      go_light
      intro L σ W' hcl hL hC hw
      have e0 := wV hw 0 rfl
      have e5 := wV hw 5 rfl
      clear hw
      have HC := Lib.hid hC
      clear hC
      clear hcl hL
      refine OpGoes.go fun K hK => ?_
      go_simp
      obtain ⟨hB, hl⟩ := HC.out
      refine (stimes_any l x.v false _ n cap _ hl hn).mono ?_
      rintro e w1 ⟨rfl, hb1⟩
      exact ⟨_, rfl, hK _ _ ⟨⟨bstep hB hB.size hb1, hl.below hb1⟩, rfl, hb1⟩⟩
     case a10 =>
      go_light
      intro L σ W' hcl hL hC hw
      have e8 := wV hw 8 rfl
      have e9 := wV hw 9 rfl
      have g1 := lo_i
      have g2 := hi_i
      clear hw hcl hL hC
      refine OpGoes.go fun K hK => ?_
      go_simp
      exact hK _ _ ⟨rfl, rfl⟩
     case a13 =>
      go_light
      intro L σ W' hcl hL hC hw
      have e7 := wV hw 7 rfl
      have e12 := wV hw 12 rfl
      clear hw
      have HC := Lib.hid hC
      clear hC
      clear hcl hL
      refine OpGoes.go fun K hK => ?_
      go_simp
      obtain ⟨hB, hl⟩ := HC.out
      refine (stimes_any l x.v true _ n cap _ hl hn).mono ?_
      rintro e w1 ⟨rfl, hb1⟩
      exact ⟨_, rfl, hK _ _ ⟨⟨bstep hB hB.size hb1, hl.below hb1⟩, rfl, hb1⟩⟩
     case a14 =>
      go_light
      intro L σ W' hcl hL hC hw
      have e6 := wV hw 6 rfl
      have e13 := wV hw 13 rfl
      have q0 := HT.out
      clear hw hcl hL hC
      refine OpGoes.go fun K hK => ?_
      go_simp
      exact hK _ _ ⟨rfl, rfl⟩
     ·
      intro L L' W' hLL hC
      obtain ⟨hB, hl⟩ := hC
      exact ⟨hB, hl⟩
     ·
      intro σ L W' hall hC hRR
      obtain ⟨hB, hl⟩ := hC
      have e14 := dV hRR 14 rfl
      clear hRR
      simp only [lexAll]
      go_simp
      go_step
      go_wp2
      go_ret
      exact .mk (congrArg Value.bool HR.out.symm) hB
  ·
   have g1 : ¬ (i : Int) < (n : Int) := by omega
   obtain rfl : n = i := by omega
   have HV := Lib.hid (show nothingTwice l = storyOk l by
    have h1 : l.all (fun x => !(x.re == 4) || (decide (times l x.v false ≤ times l x.v true) && l.any fun y => y.re == 1 && y.v == x.v && !decide (x.e < y.b))) = true := by have := HAL.out; rw [← HL.out] at this; exact all_end this
    unfold nothingTwice; rw [h1]; rfl)
   go_wp2_with fail
   refine (sstory_any l A n cap _ hr hn).mono ?_
   rintro e w1 ⟨rfl, hb1⟩
   go_wp2
   go_ret
   exact .mk (congrArg Value.bool HV.out.symm) (bstep hB hB.size hb1)

end Go.Proofs.Ytghgfbncijfocaa
