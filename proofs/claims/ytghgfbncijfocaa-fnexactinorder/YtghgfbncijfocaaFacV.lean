/-
 The model's EmptyHeld.
-/
import Derived.Test.YtghgfbncijfocaaFacS
namespace Go.Proofs.Ytghgfbncijfocaa
set_option linter.unusedSimpArgs false
set_option linter.unusedVariables false
open Go.RowKit
set_option linter.unusedVariables false
attribute [local go_sem] OpUpon
attribute [local go_sem ↓] Go.wp_at_zero Go.wp_at_succ

def ehAV (l : List Ev) (x y z q : Ev) (b o n cap i k j BX : Nat) (w0 : World) : List Sl := [.v (.slice (some ⟨b, o, none⟩) n cap),
 .v (.int .i64 ((i : Int))),
 .v (.pointer (some ⟨b, o + i * 6, none⟩)),
 .v (.pointer (some ⟨b, o + i * 6 + 3, none⟩)),
 .v (.int .i64 x.re),
 .v (.bool false),
 .v (.bool false),
 .v undef,
 .v undef,
 .v undef,
 .v undef,
 .v undef,
 .v undef,
 .v (.bool false),
 .v (.bool false),
 .v undef,
 .v undef,
 .v undef,
 .v undef,
 .v undef,
 .v undef,
 .v undef,
 .v undef,
 .v undef,
 .v (.bool false),
 .v (.bool false),
 .v undef,
 .v undef,
 .v undef,
 .v undef,
 .v undef,
 .v undef,
 .v undef,
 .v undef,
 .v undef,
 .v undef,
 .v undef,
 .v undef,
 .v (.bool false)]

def ehBV (l : List Ev) (x y z q : Ev) (b o n cap i k j BX : Nat) (w0 : World) : List Sl := [.v (.slice (some ⟨b, o, none⟩) n cap),
 .v (.int .i64 ((i : Int))),
 .v (.pointer (some ⟨b, o + i * 6, none⟩)),
 .v (.pointer (some ⟨b, o + i * 6 + 3, none⟩)),
 .v (.int .i64 x.re),
 .v (.bool true),
 .v (.bool true),
 .v (.slice (some ⟨b, o, none⟩) n cap),
 .v (.int .i64 ((k : Int))),
 .v (.pointer (some ⟨b, o + k * 6, none⟩)),
 .v (.pointer (some ⟨b, o + k * 6 + 3, none⟩)),
 .v (.int .i64 y.re),
 .v (.bool false),
 .v (.bool false),
 .v (.bool false),
 .v undef,
 .v undef,
 .v undef,
 .v undef,
 .v undef,
 .v undef,
 .v undef,
 .v undef,
 .v undef,
 .v (.bool false),
 .v (.bool false),
 .v undef,
 .v undef,
 .v undef,
 .v undef,
 .v undef,
 .v undef,
 .v undef,
 .v undef,
 .v undef,
 .v undef,
 .v undef,
 .v undef,
 .v (.bool false)]

def ehCV (l : List Ev) (x y z q : Ev) (b o n cap i k j BX : Nat) (w0 : World) : List Sl := [.v (.slice (some ⟨b, o, none⟩) n cap),
 .v (.int .i64 ((i : Int))),
 .v (.pointer (some ⟨b, o + i * 6, none⟩)),
 .v (.pointer (some ⟨b, o + i * 6 + 3, none⟩)),
 .v (.int .i64 x.re),
 .v (.bool true),
 .v (.bool true),
 .v (.slice (some ⟨b, o, none⟩) n cap),
 .v (.int .i64 ((k : Int))),
 .v (.pointer (some ⟨b, o + k * 6, none⟩)),
 .v (.pointer (some ⟨b, o + k * 6 + 3, none⟩)),
 .v (.int .i64 y.re),
 .v (.bool true),
 .v (.bool true),
 .v (.bool true),
 .v (.slice (some ⟨b, o, none⟩) n cap),
 .v (.int .i64 ((k : Int))),
 .v (.pointer (some ⟨b, o + k * 6, none⟩)),
 .v (.agg #[.int .i64 y.who, .bool y.put, .int .i64 y.v, .int .i64 y.re, .int .i64 y.b, .int .i64 y.e]),
 .v (.slice (some ⟨b, o, none⟩) n cap),
 .v (.int .i64 ((i : Int))),
 .v (.pointer (some ⟨b, o + i * 6, none⟩)),
 .v (.agg #[.int .i64 x.who, .bool x.put, .int .i64 x.v, .int .i64 x.re, .int .i64 x.b, .int .i64 x.e]),
 .v (.bool false),
 .v (.bool false),
 .v (.bool false),
 .v undef,
 .v undef,
 .v undef,
 .v undef,
 .v undef,
 .v undef,
 .v undef,
 .v undef,
 .v undef,
 .v undef,
 .v undef,
 .v undef,
 .v (.bool false)]

def ehDV (l : List Ev) (x y z q : Ev) (b o n cap i k j BX : Nat) (w0 : World) : List Sl := [.v (.slice (some ⟨b, o, none⟩) n cap),
 .v (.int .i64 ((i : Int))),
 .v (.pointer (some ⟨b, o + i * 6, none⟩)),
 .v (.pointer (some ⟨b, o + i * 6 + 3, none⟩)),
 .v (.int .i64 x.re),
 .v (.bool true),
 .v (.bool true),
 .v (.slice (some ⟨b, o, none⟩) n cap),
 .v (.int .i64 ((k : Int))),
 .v (.pointer (some ⟨b, o + k * 6, none⟩)),
 .v (.pointer (some ⟨b, o + k * 6 + 3, none⟩)),
 .v (.int .i64 y.re),
 .v (.bool true),
 .v (.bool true),
 .v (.bool true),
 .v (.slice (some ⟨b, o, none⟩) n cap),
 .v (.int .i64 ((k : Int))),
 .v (.pointer (some ⟨b, o + k * 6, none⟩)),
 .v (.agg #[.int .i64 y.who, .bool y.put, .int .i64 y.v, .int .i64 y.re, .int .i64 y.b, .int .i64 y.e]),
 .v (.slice (some ⟨b, o, none⟩) n cap),
 .v (.int .i64 ((i : Int))),
 .v (.pointer (some ⟨b, o + i * 6, none⟩)),
 .v (.agg #[.int .i64 x.who, .bool x.put, .int .i64 x.v, .int .i64 x.re, .int .i64 x.b, .int .i64 x.e]),
 .v (.bool true),
 .v (.bool true),
 .v (.bool true),
 .v (.slice (some ⟨b, o, none⟩) n cap),
 .v (.slice (some ⟨b, o, none⟩) n cap),
 .v (.int .i64 ((k : Int))),
 .v (.pointer (some ⟨b, o + k * 6, none⟩)),
 .v (.pointer (some ⟨b, o + k * 6 + 2, none⟩)),
 .v (.int .i64 y.v),
 .v (.slice (some ⟨b, o, none⟩) n cap),
 .v (.int .i64 ((i : Int))),
 .v (.pointer (some ⟨b, o + i * 6, none⟩)),
 .v (.agg #[.int .i64 x.who, .bool x.put, .int .i64 x.v, .int .i64 x.re, .int .i64 x.b, .int .i64 x.e]),
 .v (.bool true),
 .v (.bool false),
 .v (.bool false)]

def ehEV (l : List Ev) (x y z q : Ev) (b o n cap i k j BX : Nat) (w0 : World) : List Sl := [.v (.slice (some ⟨b, o, none⟩) n cap),
 .v (.int .i64 ((i : Int))),
 .v (.pointer (some ⟨b, o + i * 6, none⟩)),
 .v (.pointer (some ⟨b, o + i * 6 + 3, none⟩)),
 .v (.int .i64 x.re),
 .v (.bool true),
 .v (.bool true),
 .v (.slice (some ⟨b, o, none⟩) n cap),
 .v (.int .i64 ((k : Int))),
 .v (.pointer (some ⟨b, o + k * 6, none⟩)),
 .v (.pointer (some ⟨b, o + k * 6 + 3, none⟩)),
 .v (.int .i64 y.re),
 .v (.bool true),
 .v (.bool true),
 .v (.bool true),
 .v (.slice (some ⟨b, o, none⟩) n cap),
 .v (.int .i64 ((k : Int))),
 .v (.pointer (some ⟨b, o + k * 6, none⟩)),
 .v (.agg #[.int .i64 y.who, .bool y.put, .int .i64 y.v, .int .i64 y.re, .int .i64 y.b, .int .i64 y.e]),
 .v (.slice (some ⟨b, o, none⟩) n cap),
 .v (.int .i64 ((i : Int))),
 .v (.pointer (some ⟨b, o + i * 6, none⟩)),
 .v (.agg #[.int .i64 x.who, .bool x.put, .int .i64 x.v, .int .i64 x.re, .int .i64 x.b, .int .i64 x.e]),
 .v (.bool true),
 .v (.bool true),
 .v (.bool true),
 .v (.slice (some ⟨b, o, none⟩) n cap),
 .v (.slice (some ⟨b, o, none⟩) n cap),
 .v (.int .i64 ((k : Int))),
 .v (.pointer (some ⟨b, o + k * 6, none⟩)),
 .v (.pointer (some ⟨b, o + k * 6 + 2, none⟩)),
 .v (.int .i64 y.v),
 .v (.slice (some ⟨b, o, none⟩) n cap),
 .v (.int .i64 ((i : Int))),
 .v (.pointer (some ⟨b, o + i * 6, none⟩)),
 .v (.agg #[.int .i64 x.who, .bool x.put, .int .i64 x.v, .int .i64 x.re, .int .i64 x.b, .int .i64 x.e]),
 .v (.bool false),
 .v (.bool true),
 .v (.bool true)]

set_option maxRecDepth 100000 in
set_option maxHeartbeats 4000000 in
theorem sempty_any (l : List Ev) (A : Option Addr) (n cap : Nat) (w00 : World) (h0 : EvsR w00 A n l) (hn : n ≤ 1048576) :
  Calls Try.prog 14 #[.slice A n cap] w00 (RetBelow (.bool (emptyHeld l)) w00) := by
 have HL := Lib.hid h0.1
 go_enter Try.func14, Try.ntmps14
 go_wp2_with fail
 refine (sstory_any l A n cap _ h0 hn).mono ?_
 rintro e wa ⟨rfl, hBa⟩
 have ha := h0.below hBa
 cases hok : storyOk l
 ·
  have HR := Lib.hid (show emptyHeld l = false by unfold emptyHeld; rw [hok]; rfl)
  go_wp2
  go_ret
  exact .mk (congrArg Value.bool HR.out.symm) hBa
 go_wp2_with fail
 refine (stwice_any l A n cap _ ha hn).mono ?_
 rintro e w0 ⟨rfl, hBb⟩
 have h := ha.below hBb
 replace hBa := bstep hBa hBa.size hBb
 clear ha hBb
 cases htw : twiceB l
 case true =>
  have HR := Lib.hid (show emptyHeld l = true by unfold emptyHeld; rw [hok, htw]; rfl)
  go_wp2
  go_ret
  exact .mk (congrArg Value.bool HR.out.symm) hBa
 have HE := Lib.hid (show emptyHeld l = l.all (fun x => l.all fun y => !(x.re == 3 && y.re == 1 && decide (y.e < x.b)) || gotB l y.v x) by unfold emptyHeld; rw [hok, htw]; rfl)
 clear hok htw
 go_wp2
 go_loopw [3] (fun s3 W => ∃ i : Nat, i ≤ n ∧ s3 = .int .i64 i ∧ Below w0.heap.size w0 W ∧ (l.take i).all (fun x => l.all fun y => !(x.re == 3 && y.re == 1 && decide (y.e < x.b)) || gotB l y.v x) = true) (fun s3 _ => n - (intOf s3).toNat)
 case atStart => exact ⟨0, Nat.zero_le _, rfl, Below.refl _ _, rfl⟩
 case round =>
  obtain ⟨i, hin, rfl, hB, hal⟩ := hrel
  have hr : EvsR wr A n l := SlE.keep EvE.kept h (fun j _ hj => hB.block j hj)
  have HAL := Lib.hid hal; clear hal
  by_cases hlt : i < n
  ·
   obtain ⟨b, o, x, rfl, hx⟩ := evs_some hr hlt
   have HX_i := Lib.hid hx; clear hx
   have lo_i : (0 : Int) ≤ (i : Int) := by omega
   have hi_i : (i : Int) < (n : Int) := by omega
   have hN_i := hlt
   have hl := hr
   go_wp2
   go_loopw [4] (fun s4 W => ∃ k : Nat, k ≤ n ∧ s4 = .int .i64 k ∧ Below w0.heap.size w0 W ∧ (l.take k).all (fun y => !(x.re == 3 && y.re == 1 && decide (y.e < x.b)) || gotB l y.v x) = true) (fun s4 _ => n - (intOf s4).toNat)
   case atStart => exact ⟨0, Nat.zero_le _, rfl, hB, rfl⟩
   case round =>
    clear hB hl hr
    obtain ⟨k, hkn, rfl, hB, hak⟩ := hrel
    have hr : EvsR wr (some ⟨b, o, none⟩) n l := SlE.keep EvE.kept h (fun j _ hj => hB.block j hj)
    have HAK := Lib.hid hak; clear hak
    by_cases hkt : k < n
    ·
     obtain ⟨y, hy⟩ := evs_get hr hkt
     have HX_k := Lib.hid hy; clear hy
     have lo_k : (0 : Int) ≤ (k : Int) := by omega
     have hi_k : (k : Int) < (n : Int) := by omega
     have hN_k := hkt
     have hl := hr
     obtain ⟨b_, h1⟩ : ∃ b_, (x.re == 3) = b_ := ⟨_, rfl⟩
     cases b_
     ·
      have HA := Lib.hid h1
      have HQ := Lib.hid (show (fun y => !(x.re == 3 && y.re == 1 && decide (y.e < x.b)) || gotB l y.v x) y = true by simp only [h1, Bool.false_and, Bool.not_false, Bool.true_or])
      clear h1
      go_wp2_with fail
      refine wp_region2v (fun w w' => Below w.heap.size w w') (fun _ _ h => h.size) (fun _ => Below.refl _ _) (fun L W' => Below w0.heap.size w0 W' ∧ EvsR W' (some ⟨b, o, none⟩) n l) (ehAV l x y x0 x0 b o n cap i k 0 0 w0) (fun _ => 0) [] (by kernel_rfl) (by kernel_rfl) ?_ ?_ ?_
       (.still rfl ?a0 <| .still rfl ?a1 <| .still rfl ?a2 <| .still rfl ?a3 <| .still rfl ?a4 <| .still rfl ?a5 <| .still rfl ?a6 <| .still rfl ?a7 <| .still rfl ?a8 <| .still rfl ?a9 <| .still rfl ?a10 <| .still rfl ?a11 <| .still rfl ?a12 <| .still rfl ?a13 <| .still rfl ?a14 <| .still rfl ?a15 <| .still rfl ?a16 <| .still rfl ?a17 <| .still rfl ?a18 <| .still rfl ?a19 <| .still rfl ?a20 <| .still rfl ?a21 <| .still rfl ?a22 <| .still rfl ?a23 <| .still rfl ?a24 <| .still rfl ?a25 <| .still rfl ?a26 <| .still rfl ?a27 <| .still rfl ?a28 <| .still rfl ?a29 <| .still rfl ?a30 <| .still rfl ?a31 <| .still rfl ?a32 <| .still rfl ?a33 <| .still rfl ?a34 <| .still rfl ?a35 <| .still rfl ?a36 <| .still rfl ?a37 <| .still rfl ?a38 <| .nil) ?_ ?_
      · exact trivial
      · exact trivial
      · exact ⟨hB.drew, hl⟩
      case a0 | a1 | a3 | a6 | a7 | a8 | a9 | a10 | a11 | a12 | a13 | a14 | a15 | a16 | a17 | a18 | a19 | a20 | a21 | a22 | a23 | a24 | a25 | a26 | a27 | a28 | a29 | a30 | a31 | a32 | a33 | a34 | a35 | a36 | a37 | a38 =>
       go_light
       intro L σ W' hcl hL hC hw
       try have e2 := wT hw 2 rfl
       try have e5 := wT hw 5 rfl
       try have e6 := wT hw 6 rfl
       try have e7 := wT hw 7 rfl
       try have e8 := wT hw 8 rfl
       try have e9 := wT hw 9 rfl
       try have e10 := wT hw 10 rfl
       try have e11 := wT hw 11 rfl
       try have e12 := wT hw 12 rfl
       try have e13 := wT hw 13 rfl
       try have e14 := wT hw 14 rfl
       try have e15 := wT hw 15 rfl
       try have e16 := wT hw 16 rfl
       try have e17 := wT hw 17 rfl
       try have e18 := wT hw 18 rfl
       try have e19 := wT hw 19 rfl
       try have e20 := wT hw 20 rfl
       try have e21 := wT hw 21 rfl
       try have e22 := wT hw 22 rfl
       try have e23 := wT hw 23 rfl
       try have e24 := wT hw 24 rfl
       try have e25 := wT hw 25 rfl
       try have e26 := wT hw 26 rfl
       try have e27 := wT hw 27 rfl
       try have e28 := wT hw 28 rfl
       try have e29 := wT hw 29 rfl
       try have e30 := wT hw 30 rfl
       try have e31 := wT hw 31 rfl
       try have e32 := wT hw 32 rfl
       try have e33 := wT hw 33 rfl
       try have e34 := wT hw 34 rfl
       try have e35 := wT hw 35 rfl
       try have e36 := wT hw 36 rfl
       try have e37 := wT hw 37 rfl
       clear hw hcl hL hC
       refine OpGoes.go fun K hK => ?_
       go_simp
       exact hK _ _ ⟨rfl, rfl⟩
      case a4 =>
       go_light
       intro L σ W' hcl hL hC hw
       have e3 := wV hw 3 rfl
       obtain ⟨c0, c1, c2, c3, c4, c5⟩ := ev_at hC.2 hN_i HX_i.out
       clear hw hcl hL hC
       refine OpGoes.go fun K hK => ?_
       go_simp
       exact hK _ _ ⟨rfl, rfl⟩
      case a2 =>
       go_light
       intro L σ W' hcl hL hC hw
       have e0 := wV hw 0 rfl
       have e1 := wV hw 1 rfl
       have g1 := lo_i
       have g2 := hi_i
       clear hw hcl hL hC
       refine OpGoes.go fun K hK => ?_
       go_simp
       exact hK _ _ ⟨rfl, rfl⟩
      case a5 =>
       go_light
       intro L σ W' hcl hL hC hw
       have e4 := wV hw 4 rfl
       have q0 := HA.out
       clear hw hcl hL hC
       refine OpGoes.go fun K hK => ?_
       go_simp
       exact hK _ _ ⟨rfl, rfl⟩
      ·
       intro L L' W' hLL hC
       obtain ⟨hB, hl⟩ := hC
       exact ⟨hB, hl⟩
      ·
       intro σ L W' hall hC hRR
       obtain ⟨hB, hl⟩ := hC
       have e38 := dV hRR 38 rfl
       clear hRR
       simp only [lexAll]
       go_simp
       go_step
       go_wp2
       go_roundw
       case rel => exact ⟨k + 1, by omega, by go_num, hB, all_to (p := (fun y => !(x.re == 3 && y.re == 1 && decide (y.e < x.b)) || gotB l y.v x)) HX_k.out HAK.out HQ.out⟩
       case measure => simp [intOf]; omega
     obtain ⟨b_, h2⟩ : ∃ b_, (y.re == 1) = b_ := ⟨_, rfl⟩
     cases b_
     ·
      have HA := Lib.hid h1
      have HV := Lib.hid h2
      have HQ := Lib.hid (show (fun y => !(x.re == 3 && y.re == 1 && decide (y.e < x.b)) || gotB l y.v x) y = true by simp only [h2, Bool.false_and, Bool.and_false, Bool.not_false, Bool.true_or])
      clear h1 h2
      go_wp2_with fail
      refine wp_region2v (fun w w' => Below w.heap.size w w') (fun _ _ h => h.size) (fun _ => Below.refl _ _) (fun L W' => Below w0.heap.size w0 W' ∧ EvsR W' (some ⟨b, o, none⟩) n l) (ehBV l x y x0 x0 b o n cap i k 0 0 w0) (fun _ => 0) [] (by kernel_rfl) (by kernel_rfl) ?_ ?_ ?_
       (.still rfl ?a0 <| .still rfl ?a1 <| .still rfl ?a2 <| .still rfl ?a3 <| .still rfl ?a4 <| .still rfl ?a5 <| .still rfl ?a6 <| .still rfl ?a7 <| .still rfl ?a8 <| .still rfl ?a9 <| .still rfl ?a10 <| .still rfl ?a11 <| .still rfl ?a12 <| .still rfl ?a13 <| .still rfl ?a14 <| .still rfl ?a15 <| .still rfl ?a16 <| .still rfl ?a17 <| .still rfl ?a18 <| .still rfl ?a19 <| .still rfl ?a20 <| .still rfl ?a21 <| .still rfl ?a22 <| .still rfl ?a23 <| .still rfl ?a24 <| .still rfl ?a25 <| .still rfl ?a26 <| .still rfl ?a27 <| .still rfl ?a28 <| .still rfl ?a29 <| .still rfl ?a30 <| .still rfl ?a31 <| .still rfl ?a32 <| .still rfl ?a33 <| .still rfl ?a34 <| .still rfl ?a35 <| .still rfl ?a36 <| .still rfl ?a37 <| .still rfl ?a38 <| .nil) ?_ ?_
      · exact trivial
      · exact trivial
      · exact ⟨hB.drew, hl⟩
      case a0 | a1 | a3 | a6 | a7 | a8 | a10 | a13 | a14 | a15 | a16 | a17 | a18 | a19 | a20 | a21 | a22 | a23 | a24 | a25 | a26 | a27 | a28 | a29 | a30 | a31 | a32 | a33 | a34 | a35 | a36 | a37 | a38 =>
       go_light
       intro L σ W' hcl hL hC hw
       try have e2 := wT hw 2 rfl
       try have e5 := wT hw 5 rfl
       try have e6 := wT hw 6 rfl
       try have e9 := wT hw 9 rfl
       try have e12 := wT hw 12 rfl
       try have e13 := wT hw 13 rfl
       try have e14 := wT hw 14 rfl
       try have e15 := wT hw 15 rfl
       try have e16 := wT hw 16 rfl
       try have e17 := wT hw 17 rfl
       try have e18 := wT hw 18 rfl
       try have e19 := wT hw 19 rfl
       try have e20 := wT hw 20 rfl
       try have e21 := wT hw 21 rfl
       try have e22 := wT hw 22 rfl
       try have e23 := wT hw 23 rfl
       try have e24 := wT hw 24 rfl
       try have e25 := wT hw 25 rfl
       try have e26 := wT hw 26 rfl
       try have e27 := wT hw 27 rfl
       try have e28 := wT hw 28 rfl
       try have e29 := wT hw 29 rfl
       try have e30 := wT hw 30 rfl
       try have e31 := wT hw 31 rfl
       try have e32 := wT hw 32 rfl
       try have e33 := wT hw 33 rfl
       try have e34 := wT hw 34 rfl
       try have e35 := wT hw 35 rfl
       try have e36 := wT hw 36 rfl
       try have e37 := wT hw 37 rfl
       clear hw hcl hL hC
       refine OpGoes.go fun K hK => ?_
       go_simp
       exact hK _ _ ⟨rfl, rfl⟩
      case a4 =>
       go_light
       intro L σ W' hcl hL hC hw
       have e3 := wV hw 3 rfl
       obtain ⟨c0, c1, c2, c3, c4, c5⟩ := ev_at hC.2 hN_i HX_i.out
       clear hw hcl hL hC
       refine OpGoes.go fun K hK => ?_
       go_simp
       exact hK _ _ ⟨rfl, rfl⟩
      case a11 =>
       go_light
       intro L σ W' hcl hL hC hw
       have e6 := wV hw 6 rfl
       have e10 := wV hw 10 rfl
       obtain ⟨c0, c1, c2, c3, c4, c5⟩ := ev_at hC.2 hN_k HX_k.out
       clear hw hcl hL hC
       refine OpGoes.go fun K hK => ?_
       go_simp
       exact hK _ _ ⟨rfl, rfl⟩
      case a2 =>
       go_light
       intro L σ W' hcl hL hC hw
       have e0 := wV hw 0 rfl
       have e1 := wV hw 1 rfl
       have g1 := lo_i
       have g2 := hi_i
       clear hw hcl hL hC
       refine OpGoes.go fun K hK => ?_
       go_simp
       exact hK _ _ ⟨rfl, rfl⟩
      case a5 =>
       go_light
       intro L σ W' hcl hL hC hw
       have e4 := wV hw 4 rfl
       have q0 := HA.out
       clear hw hcl hL hC
       refine OpGoes.go fun K hK => ?_
       go_simp
       exact hK _ _ ⟨rfl, rfl⟩
      case a9 =>
       go_light
       intro L σ W' hcl hL hC hw
       have e6 := wV hw 6 rfl
       have e7 := wV hw 7 rfl
       have e8 := wV hw 8 rfl
       have g1 := lo_k
       have g2 := hi_k
       clear hw hcl hL hC
       refine OpGoes.go fun K hK => ?_
       go_simp
       exact hK _ _ ⟨rfl, rfl⟩
      case a12 =>
       go_light
       intro L σ W' hcl hL hC hw
       have e6 := wV hw 6 rfl
       have e11 := wV hw 11 rfl
       have q0 := HV.out
       clear hw hcl hL hC
       refine OpGoes.go fun K hK => ?_
       go_simp
       exact hK _ _ ⟨rfl, rfl⟩
      ·
       intro L L' W' hLL hC
       obtain ⟨hB, hl⟩ := hC
       exact ⟨hB, hl⟩
      ·
       intro σ L W' hall hC hRR
       obtain ⟨hB, hl⟩ := hC
       have e38 := dV hRR 38 rfl
       clear hRR
       simp only [lexAll]
       go_simp
       go_step
       go_wp2
       go_roundw
       case rel => exact ⟨k + 1, by omega, by go_num, hB, all_to (p := (fun y => !(x.re == 3 && y.re == 1 && decide (y.e < x.b)) || gotB l y.v x)) HX_k.out HAK.out HQ.out⟩
       case measure => simp [intOf]; omega
     obtain ⟨b_, h3⟩ : ∃ b_, (decide (y.e < x.b)) = b_ := ⟨_, rfl⟩
     cases b_
     ·
      have HA := Lib.hid h1
      have HV := Lib.hid h2
      have HT := Lib.hid h3
      have HQ := Lib.hid (show (fun y => !(x.re == 3 && y.re == 1 && decide (y.e < x.b)) || gotB l y.v x) y = true by simp only [h3, Bool.and_false, Bool.not_false, Bool.true_or])
      clear h1 h2 h3
      go_wp2_with fail
      refine wp_region2v (fun w w' => Below w.heap.size w w') (fun _ _ h => h.size) (fun _ => Below.refl _ _) (fun L W' => Below w0.heap.size w0 W' ∧ EvsR W' (some ⟨b, o, none⟩) n l) (ehCV l x y x0 x0 b o n cap i k 0 0 w0) (fun _ => 0) [] (by kernel_rfl) (by kernel_rfl) ?_ ?_ ?_
       (.still rfl ?a0 <| .still rfl ?a1 <| .still rfl ?a2 <| .still rfl ?a3 <| .still rfl ?a4 <| .still rfl ?a5 <| .still rfl ?a6 <| .still rfl ?a7 <| .still rfl ?a8 <| .still rfl ?a9 <| .still rfl ?a10 <| .still rfl ?a11 <| .still rfl ?a12 <| .still rfl ?a13 <| .still rfl ?a14 <| .still rfl ?a15 <| .still rfl ?a16 <| .still rfl ?a17 <| .still rfl ?a18 <| .still rfl ?a19 <| .still rfl ?a20 <| .still rfl ?a21 <| .still rfl ?a22 <| .grow rfl ?a23 <| .still rfl ?a24 <| .still rfl ?a25 <| .still rfl ?a26 <| .still rfl ?a27 <| .still rfl ?a28 <| .still rfl ?a29 <| .still rfl ?a30 <| .still rfl ?a31 <| .still rfl ?a32 <| .still rfl ?a33 <| .still rfl ?a34 <| .still rfl ?a35 <| .still rfl ?a36 <| .still rfl ?a37 <| .still rfl ?a38 <| .nil) ?_ ?_
      · exact trivial
      · exact trivial
      · exact ⟨hB.drew, hl⟩
      case a0 | a1 | a3 | a6 | a7 | a8 | a10 | a13 | a14 | a15 | a16 | a19 | a20 | a24 | a25 | a26 | a27 | a28 | a29 | a30 | a31 | a32 | a33 | a34 | a35 | a36 | a37 | a38 =>
       go_light
       intro L σ W' hcl hL hC hw
       try have e2 := wT hw 2 rfl
       try have e5 := wT hw 5 rfl
       try have e6 := wT hw 6 rfl
       try have e9 := wT hw 9 rfl
       try have e12 := wT hw 12 rfl
       try have e13 := wT hw 13 rfl
       try have e14 := wT hw 14 rfl
       try have e23 := wT hw 23 rfl
       try have e24 := wT hw 24 rfl
       try have e25 := wT hw 25 rfl
       try have e26 := wT hw 26 rfl
       try have e27 := wT hw 27 rfl
       try have e28 := wT hw 28 rfl
       try have e29 := wT hw 29 rfl
       try have e30 := wT hw 30 rfl
       try have e31 := wT hw 31 rfl
       try have e32 := wT hw 32 rfl
       try have e33 := wT hw 33 rfl
       try have e34 := wT hw 34 rfl
       try have e35 := wT hw 35 rfl
       try have e36 := wT hw 36 rfl
       try have e37 := wT hw 37 rfl
       clear hw hcl hL hC
       refine OpGoes.go fun K hK => ?_
       go_simp
       exact hK _ _ ⟨rfl, rfl⟩
      case a4 | a22 =>
       go_light
       intro L σ W' hcl hL hC hw
       try have e3 := wT hw 3 rfl
       try have e14 := wT hw 14 rfl
       try have e21 := wT hw 21 rfl
       obtain ⟨c0, c1, c2, c3, c4, c5⟩ := ev_at hC.2 hN_i HX_i.out
       clear hw hcl hL hC
       refine OpGoes.go fun K hK => ?_
       go_simp
       exact hK _ _ ⟨rfl, rfl⟩
      case a11 | a18 =>
       go_light
       intro L σ W' hcl hL hC hw
       try have e6 := wT hw 6 rfl
       try have e10 := wT hw 10 rfl
       try have e14 := wT hw 14 rfl
       try have e17 := wT hw 17 rfl
       obtain ⟨c0, c1, c2, c3, c4, c5⟩ := ev_at hC.2 hN_k HX_k.out
       clear hw hcl hL hC
       refine OpGoes.go fun K hK => ?_
       go_simp
       exact hK _ _ ⟨rfl, rfl⟩
      case a2 =>
       go_light
       intro L σ W' hcl hL hC hw
       have e0 := wV hw 0 rfl
       have e1 := wV hw 1 rfl
       have g1 := lo_i
       have g2 := hi_i
       clear hw hcl hL hC
       refine OpGoes.go fun K hK => ?_
       go_simp
       exact hK _ _ ⟨rfl, rfl⟩
      case a5 =>
       go_light
       intro L σ W' hcl hL hC hw
       have e4 := wV hw 4 rfl
       have q0 := HA.out
       clear hw hcl hL hC
       refine OpGoes.go fun K hK => ?_
       go_simp
       exact hK _ _ ⟨rfl, rfl⟩
      case a9 =>
       go_light
       intro L σ W' hcl hL hC hw
       have e6 := wV hw 6 rfl
       have e7 := wV hw 7 rfl
       have e8 := wV hw 8 rfl
       have g1 := lo_k
       have g2 := hi_k
       clear hw hcl hL hC
       refine OpGoes.go fun K hK => ?_
       go_simp
       exact hK _ _ ⟨rfl, rfl⟩
      case a12 =>
       go_light
       intro L σ W' hcl hL hC hw
       have e6 := wV hw 6 rfl
       have e11 := wV hw 11 rfl
       have q0 := HV.out
       clear hw hcl hL hC
       refine OpGoes.go fun K hK => ?_
       go_simp
       exact hK _ _ ⟨rfl, rfl⟩
      case a17 =>
       go_light
       intro L σ W' hcl hL hC hw
       have e14 := wV hw 14 rfl
       have e15 := wV hw 15 rfl
       have e16 := wV hw 16 rfl
       have g1 := lo_k
       have g2 := hi_k
       clear hw hcl hL hC
       refine OpGoes.go fun K hK => ?_
       go_simp
       exact hK _ _ ⟨rfl, rfl⟩
      case a21 =>
       go_light
       intro L σ W' hcl hL hC hw
       have e14 := wV hw 14 rfl
       have e19 := wV hw 19 rfl
       have e20 := wV hw 20 rfl
       have g1 := lo_i
       have g2 := hi_i
       clear hw hcl hL hC
       refine OpGoes.go fun K hK => ?_
       go_simp
       exact hK _ _ ⟨rfl, rfl⟩
      case a23 =>
       go_light
       intro L σ W' hcl hL hC hw
       have e14 := wV hw 14 rfl
       have e18 := wV hw 18 rfl
       have e22 := wV hw 22 rfl
       clear hw
       have HC := Lib.hid hC
       clear hC
       clear hcl hL
       refine OpGoes.go fun K hK => ?_
       go_simp
       obtain ⟨hB, hl⟩ := HC.out
       refine (sahd_any y x _).mono ?_
       rintro e w1 ⟨rfl, hb1⟩
       exact ⟨_, rfl, hK _ _ ⟨⟨bstep hB hB.size hb1, hl.below hb1⟩, congrArg Value.bool HT.out, hb1⟩⟩
      ·
       intro L L' W' hLL hC
       obtain ⟨hB, hl⟩ := hC
       exact ⟨hB, hl⟩
      ·
       intro σ L W' hall hC hRR
       obtain ⟨hB, hl⟩ := hC
       have e38 := dV hRR 38 rfl
       clear hRR
       simp only [lexAll]
       go_simp
       go_step
       go_wp2
       go_roundw
       case rel => exact ⟨k + 1, by omega, by go_num, hB, all_to (p := (fun y => !(x.re == 3 && y.re == 1 && decide (y.e < x.b)) || gotB l y.v x)) HX_k.out HAK.out HQ.out⟩
       case measure => simp [intOf]; omega
     obtain ⟨b_, h4⟩ : ∃ b_, (gotB l y.v x) = b_ := ⟨_, rfl⟩
     cases b_
     ·
      have HA := Lib.hid h1
      have HV := Lib.hid h2
      have HT := Lib.hid h3
      have HG := Lib.hid h4
      have HR := Lib.hid (show emptyHeld l = false by
       rw [HE.out]
       have q1 : (fun y => !(x.re == 3 && y.re == 1 && decide (y.e < x.b)) || gotB l y.v x) y = false := by simp only [h1, h2, h3, h4, Bool.and_self, Bool.not_true, Bool.or_self]
       exact all_no HX_i.out (all_no HX_k.out q1))
      clear h1 h2 h3 h4
      go_wp2_with fail
      refine wp_region2v (fun w w' => Below w.heap.size w w') (fun _ _ h => h.size) (fun _ => Below.refl _ _) (fun L W' => Below w0.heap.size w0 W' ∧ EvsR W' (some ⟨b, o, none⟩) n l) (ehEV l x y x0 x0 b o n cap i k 0 0 w0) (fun _ => 0) [] (by kernel_rfl) (by kernel_rfl) ?_ ?_ ?_
       (.still rfl ?a0 <| .still rfl ?a1 <| .still rfl ?a2 <| .still rfl ?a3 <| .still rfl ?a4 <| .still rfl ?a5 <| .still rfl ?a6 <| .still rfl ?a7 <| .still rfl ?a8 <| .still rfl ?a9 <| .still rfl ?a10 <| .still rfl ?a11 <| .still rfl ?a12 <| .still rfl ?a13 <| .still rfl ?a14 <| .still rfl ?a15 <| .still rfl ?a16 <| .still rfl ?a17 <| .still rfl ?a18 <| .still rfl ?a19 <| .still rfl ?a20 <| .still rfl ?a21 <| .still rfl ?a22 <| .grow rfl ?a23 <| .still rfl ?a24 <| .still rfl ?a25 <| .still rfl ?a26 <| .still rfl ?a27 <| .still rfl ?a28 <| .still rfl ?a29 <| .still rfl ?a30 <| .still rfl ?a31 <| .still rfl ?a32 <| .still rfl ?a33 <| .still rfl ?a34 <| .still rfl ?a35 <| .grow rfl ?a36 <| .still rfl ?a37 <| .still rfl ?a38 <| .nil) ?_ ?_
      · exact trivial
      · exact trivial
      · exact ⟨hB.drew, hl⟩
      case a0 | a1 | a3 | a6 | a7 | a8 | a10 | a13 | a14 | a15 | a16 | a19 | a20 | a24 | a25 | a26 | a27 | a28 | a30 | a32 | a33 | a37 | a38 =>
       go_light
       intro L σ W' hcl hL hC hw
       try have e2 := wT hw 2 rfl
       try have e5 := wT hw 5 rfl
       try have e6 := wT hw 6 rfl
       try have e9 := wT hw 9 rfl
       try have e12 := wT hw 12 rfl
       try have e13 := wT hw 13 rfl
       try have e14 := wT hw 14 rfl
       try have e23 := wT hw 23 rfl
       try have e24 := wT hw 24 rfl
       try have e25 := wT hw 25 rfl
       try have e29 := wT hw 29 rfl
       try have e36 := wT hw 36 rfl
       try have e37 := wT hw 37 rfl
       clear hw hcl hL hC
       refine OpGoes.go fun K hK => ?_
       go_simp
       exact hK _ _ ⟨rfl, rfl⟩
      case a4 | a22 | a35 =>
       go_light
       intro L σ W' hcl hL hC hw
       try have e3 := wT hw 3 rfl
       try have e14 := wT hw 14 rfl
       try have e21 := wT hw 21 rfl
       try have e25 := wT hw 25 rfl
       try have e34 := wT hw 34 rfl
       obtain ⟨c0, c1, c2, c3, c4, c5⟩ := ev_at hC.2 hN_i HX_i.out
       clear hw hcl hL hC
       refine OpGoes.go fun K hK => ?_
       go_simp
       exact hK _ _ ⟨rfl, rfl⟩
      case a11 | a18 | a31 =>
       go_light
       intro L σ W' hcl hL hC hw
       try have e6 := wT hw 6 rfl
       try have e10 := wT hw 10 rfl
       try have e14 := wT hw 14 rfl
       try have e17 := wT hw 17 rfl
       try have e25 := wT hw 25 rfl
       try have e30 := wT hw 30 rfl
       obtain ⟨c0, c1, c2, c3, c4, c5⟩ := ev_at hC.2 hN_k HX_k.out
       clear hw hcl hL hC
       refine OpGoes.go fun K hK => ?_
       go_simp
       exact hK _ _ ⟨rfl, rfl⟩
      case a2 =>
       go_light
       intro L σ W' hcl hL hC hw
       have e0 := wV hw 0 rfl
       have e1 := wV hw 1 rfl
       have g1 := lo_i
       have g2 := hi_i
       clear hw hcl hL hC
       refine OpGoes.go fun K hK => ?_
       go_simp
       exact hK _ _ ⟨rfl, rfl⟩
      case a5 =>
       go_light
       intro L σ W' hcl hL hC hw
       have e4 := wV hw 4 rfl
       have q0 := HA.out
       clear hw hcl hL hC
       refine OpGoes.go fun K hK => ?_
       go_simp
       exact hK _ _ ⟨rfl, rfl⟩
      case a9 =>
       go_light
       intro L σ W' hcl hL hC hw
       have e6 := wV hw 6 rfl
       have e7 := wV hw 7 rfl
       have e8 := wV hw 8 rfl
       have g1 := lo_k
       have g2 := hi_k
       clear hw hcl hL hC
       refine OpGoes.go fun K hK => ?_
       go_simp
       exact hK _ _ ⟨rfl, rfl⟩
      case a12 =>
       go_light
       intro L σ W' hcl hL hC hw
       have e6 := wV hw 6 rfl
       have e11 := wV hw 11 rfl
       have q0 := HV.out
       clear hw hcl hL hC
       refine OpGoes.go fun K hK => ?_
       go_simp
       exact hK _ _ ⟨rfl, rfl⟩
      case a17 =>
       go_light
       intro L σ W' hcl hL hC hw
       have e14 := wV hw 14 rfl
       have e15 := wV hw 15 rfl
       have e16 := wV hw 16 rfl
       have g1 := lo_k
       have g2 := hi_k
       clear hw hcl hL hC
       refine OpGoes.go fun K hK => ?_
       go_simp
       exact hK _ _ ⟨rfl, rfl⟩
      case a21 =>
       go_light
       intro L σ W' hcl hL hC hw
       have e14 := wV hw 14 rfl
       have e19 := wV hw 19 rfl
       have e20 := wV hw 20 rfl
       have g1 := lo_i
       have g2 := hi_i
       clear hw hcl hL hC
       refine OpGoes.go fun K hK => ?_
       go_simp
       exact hK _ _ ⟨rfl, rfl⟩
      case a23 =>
       go_light
       intro L σ W' hcl hL hC hw
       have e14 := wV hw 14 rfl
       have e18 := wV hw 18 rfl
       have e22 := wV hw 22 rfl
       clear hw
       have HC := Lib.hid hC
       clear hC
       clear hcl hL
       refine OpGoes.go fun K hK => ?_
       go_simp
       obtain ⟨hB, hl⟩ := HC.out
       refine (sahd_any y x _).mono ?_
       rintro e w1 ⟨rfl, hb1⟩
       exact ⟨_, rfl, hK _ _ ⟨⟨bstep hB hB.size hb1, hl.below hb1⟩, congrArg Value.bool HT.out, hb1⟩⟩
      case a29 =>
       go_light
       intro L σ W' hcl hL hC hw
       have e25 := wV hw 25 rfl
       have e27 := wV hw 27 rfl
       have e28 := wV hw 28 rfl
       have g1 := lo_k
       have g2 := hi_k
       clear hw hcl hL hC
       refine OpGoes.go fun K hK => ?_
       go_simp
       exact hK _ _ ⟨rfl, rfl⟩
      case a34 =>
       go_light
       intro L σ W' hcl hL hC hw
       have e25 := wV hw 25 rfl
       have e32 := wV hw 32 rfl
       have e33 := wV hw 33 rfl
       have g1 := lo_i
       have g2 := hi_i
       clear hw hcl hL hC
       refine OpGoes.go fun K hK => ?_
       go_simp
       exact hK _ _ ⟨rfl, rfl⟩
      case a36 =>
       go_light
       intro L σ W' hcl hL hC hw
       have e25 := wV hw 25 rfl
       have e26 := wV hw 26 rfl
       have e31 := wV hw 31 rfl
       have e35 := wV hw 35 rfl
       clear hw
       have HC := Lib.hid hC
       clear hC
       clear hcl hL
       refine OpGoes.go fun K hK => ?_
       go_simp
       obtain ⟨hB, hl⟩ := HC.out
       refine (sgot_any l y.v x _ n cap _ hl hn).mono ?_
       rintro e w1 ⟨rfl, hb1⟩
       exact ⟨_, rfl, hK _ _ ⟨⟨bstep hB hB.size hb1, hl.below hb1⟩, congrArg Value.bool HG.out, hb1⟩⟩
      ·
       intro L L' W' hLL hC
       obtain ⟨hB, hl⟩ := hC
       exact ⟨hB, hl⟩
      ·
       intro σ L W' hall hC hRR
       obtain ⟨hB, hl⟩ := hC
       have e38 := dV hRR 38 rfl
       clear hRR
       simp only [lexAll]
       go_simp
       go_step
       go_wp2
       go_ret
       exact .mk (congrArg Value.bool HR.out.symm) (bstep hBa hBa.size hB)
     ·
      have HA := Lib.hid h1
      have HV := Lib.hid h2
      have HT := Lib.hid h3
      have HG := Lib.hid h4
      have HQ := Lib.hid (show (fun y => !(x.re == 3 && y.re == 1 && decide (y.e < x.b)) || gotB l y.v x) y = true by simp only [h4, Bool.or_true])
      clear h1 h2 h3 h4
      go_wp2_with fail
      refine wp_region2v (fun w w' => Below w.heap.size w w') (fun _ _ h => h.size) (fun _ => Below.refl _ _) (fun L W' => Below w0.heap.size w0 W' ∧ EvsR W' (some ⟨b, o, none⟩) n l) (ehDV l x y x0 x0 b o n cap i k 0 0 w0) (fun _ => 0) [] (by kernel_rfl) (by kernel_rfl) ?_ ?_ ?_
       (.still rfl ?a0 <| .still rfl ?a1 <| .still rfl ?a2 <| .still rfl ?a3 <| .still rfl ?a4 <| .still rfl ?a5 <| .still rfl ?a6 <| .still rfl ?a7 <| .still rfl ?a8 <| .still rfl ?a9 <| .still rfl ?a10 <| .still rfl ?a11 <| .still rfl ?a12 <| .still rfl ?a13 <| .still rfl ?a14 <| .still rfl ?a15 <| .still rfl ?a16 <| .still rfl ?a17 <| .still rfl ?a18 <| .still rfl ?a19 <| .still rfl ?a20 <| .still rfl ?a21 <| .still rfl ?a22 <| .grow rfl ?a23 <| .still rfl ?a24 <| .still rfl ?a25 <| .still rfl ?a26 <| .still rfl ?a27 <| .still rfl ?a28 <| .still rfl ?a29 <| .still rfl ?a30 <| .still rfl ?a31 <| .still rfl ?a32 <| .still rfl ?a33 <| .still rfl ?a34 <| .still rfl ?a35 <| .grow rfl ?a36 <| .still rfl ?a37 <| .still rfl ?a38 <| .nil) ?_ ?_
      · exact trivial
      · exact trivial
      · exact ⟨hB.drew, hl⟩
      case a0 | a1 | a3 | a6 | a7 | a8 | a10 | a13 | a14 | a15 | a16 | a19 | a20 | a24 | a25 | a26 | a27 | a28 | a30 | a32 | a33 | a37 | a38 =>
       go_light
       intro L σ W' hcl hL hC hw
       try have e2 := wT hw 2 rfl
       try have e5 := wT hw 5 rfl
       try have e6 := wT hw 6 rfl
       try have e9 := wT hw 9 rfl
       try have e12 := wT hw 12 rfl
       try have e13 := wT hw 13 rfl
       try have e14 := wT hw 14 rfl
       try have e23 := wT hw 23 rfl
       try have e24 := wT hw 24 rfl
       try have e25 := wT hw 25 rfl
       try have e29 := wT hw 29 rfl
       try have e36 := wT hw 36 rfl
       try have e37 := wT hw 37 rfl
       clear hw hcl hL hC
       refine OpGoes.go fun K hK => ?_
       go_simp
       exact hK _ _ ⟨rfl, rfl⟩
      case a4 | a22 | a35 =>
       go_light
       intro L σ W' hcl hL hC hw
       try have e3 := wT hw 3 rfl
       try have e14 := wT hw 14 rfl
       try have e21 := wT hw 21 rfl
       try have e25 := wT hw 25 rfl
       try have e34 := wT hw 34 rfl
       obtain ⟨c0, c1, c2, c3, c4, c5⟩ := ev_at hC.2 hN_i HX_i.out
       clear hw hcl hL hC
       refine OpGoes.go fun K hK => ?_
       go_simp
       exact hK _ _ ⟨rfl, rfl⟩
      case a11 | a18 | a31 =>
       go_light
       intro L σ W' hcl hL hC hw
       try have e6 := wT hw 6 rfl
       try have e10 := wT hw 10 rfl
       try have e14 := wT hw 14 rfl
       try have e17 := wT hw 17 rfl
       try have e25 := wT hw 25 rfl
       try have e30 := wT hw 30 rfl
       obtain ⟨c0, c1, c2, c3, c4, c5⟩ := ev_at hC.2 hN_k HX_k.out
       clear hw hcl hL hC
       refine OpGoes.go fun K hK => ?_
       go_simp
       exact hK _ _ ⟨rfl, rfl⟩
      case a2 =>
       go_light
       intro L σ W' hcl hL hC hw
       have e0 := wV hw 0 rfl
       have e1 := wV hw 1 rfl
       have g1 := lo_i
       have g2 := hi_i
       clear hw hcl hL hC
       refine OpGoes.go fun K hK => ?_
       go_simp
       exact hK _ _ ⟨rfl, rfl⟩
      case a5 =>
       go_light
       intro L σ W' hcl hL hC hw
       have e4 := wV hw 4 rfl
       have q0 := HA.out
       clear hw hcl hL hC
       refine OpGoes.go fun K hK => ?_
       go_simp
       exact hK _ _ ⟨rfl, rfl⟩
      case a9 =>
       go_light
       intro L σ W' hcl hL hC hw
       have e6 := wV hw 6 rfl
       have e7 := wV hw 7 rfl
       have e8 := wV hw 8 rfl
       have g1 := lo_k
       have g2 := hi_k
       clear hw hcl hL hC
       refine OpGoes.go fun K hK => ?_
       go_simp
       exact hK _ _ ⟨rfl, rfl⟩
      case a12 =>
       go_light
       intro L σ W' hcl hL hC hw
       have e6 := wV hw 6 rfl
       have e11 := wV hw 11 rfl
       have q0 := HV.out
       clear hw hcl hL hC
       refine OpGoes.go fun K hK => ?_
       go_simp
       exact hK _ _ ⟨rfl, rfl⟩
      case a17 =>
       go_light
       intro L σ W' hcl hL hC hw
       have e14 := wV hw 14 rfl
       have e15 := wV hw 15 rfl
       have e16 := wV hw 16 rfl
       have g1 := lo_k
       have g2 := hi_k
       clear hw hcl hL hC
       refine OpGoes.go fun K hK => ?_
       go_simp
       exact hK _ _ ⟨rfl, rfl⟩
      case a21 =>
       go_light
       intro L σ W' hcl hL hC hw
       have e14 := wV hw 14 rfl
       have e19 := wV hw 19 rfl
       have e20 := wV hw 20 rfl
       have g1 := lo_i
       have g2 := hi_i
       clear hw hcl hL hC
       refine OpGoes.go fun K hK => ?_
       go_simp
       exact hK _ _ ⟨rfl, rfl⟩
      case a23 =>
       go_light
       intro L σ W' hcl hL hC hw
       have e14 := wV hw 14 rfl
       have e18 := wV hw 18 rfl
       have e22 := wV hw 22 rfl
       clear hw
       have HC := Lib.hid hC
       clear hC
       clear hcl hL
       refine OpGoes.go fun K hK => ?_
       go_simp
       obtain ⟨hB, hl⟩ := HC.out
       refine (sahd_any y x _).mono ?_
       rintro e w1 ⟨rfl, hb1⟩
       exact ⟨_, rfl, hK _ _ ⟨⟨bstep hB hB.size hb1, hl.below hb1⟩, congrArg Value.bool HT.out, hb1⟩⟩
      case a29 =>
       go_light
       intro L σ W' hcl hL hC hw
       have e25 := wV hw 25 rfl
       have e27 := wV hw 27 rfl
       have e28 := wV hw 28 rfl
       have g1 := lo_k
       have g2 := hi_k
       clear hw hcl hL hC
       refine OpGoes.go fun K hK => ?_
       go_simp
       exact hK _ _ ⟨rfl, rfl⟩
      case a34 =>
       go_light
       intro L σ W' hcl hL hC hw
       have e25 := wV hw 25 rfl
       have e32 := wV hw 32 rfl
       have e33 := wV hw 33 rfl
       have g1 := lo_i
       have g2 := hi_i
       clear hw hcl hL hC
       refine OpGoes.go fun K hK => ?_
       go_simp
       exact hK _ _ ⟨rfl, rfl⟩
      case a36 =>
       go_light
       intro L σ W' hcl hL hC hw
       have e25 := wV hw 25 rfl
       have e26 := wV hw 26 rfl
       have e31 := wV hw 31 rfl
       have e35 := wV hw 35 rfl
       clear hw
       have HC := Lib.hid hC
       clear hC
       clear hcl hL
       refine OpGoes.go fun K hK => ?_
       go_simp
       obtain ⟨hB, hl⟩ := HC.out
       refine (sgot_any l y.v x _ n cap _ hl hn).mono ?_
       rintro e w1 ⟨rfl, hb1⟩
       exact ⟨_, rfl, hK _ _ ⟨⟨bstep hB hB.size hb1, hl.below hb1⟩, congrArg Value.bool HG.out, hb1⟩⟩
      ·
       intro L L' W' hLL hC
       obtain ⟨hB, hl⟩ := hC
       exact ⟨hB, hl⟩
      ·
       intro σ L W' hall hC hRR
       obtain ⟨hB, hl⟩ := hC
       have e38 := dV hRR 38 rfl
       clear hRR
       simp only [lexAll]
       go_simp
       go_step
       go_wp2
       go_roundw
       case rel => exact ⟨k + 1, by omega, by go_num, hB, all_to (p := (fun y => !(x.re == 3 && y.re == 1 && decide (y.e < x.b)) || gotB l y.v x)) HX_k.out HAK.out HQ.out⟩
       case measure => simp [intOf]; omega
    ·
     have k1 : ¬ (k : Int) < (n : Int) := by omega
     obtain rfl : n = k := by omega
     have HQ := Lib.hid (show (fun x => l.all fun y => !(x.re == 3 && y.re == 1 && decide (y.e < x.b)) || gotB l y.v x) x = true by have := HAK.out; rw [← HL.out] at this; exact all_end this)
     go_wp2
     go_roundw
     case rel => exact ⟨i + 1, by omega, by go_num, hB, all_to (p := (fun x => l.all fun y => !(x.re == 3 && y.re == 1 && decide (y.e < x.b)) || gotB l y.v x)) HX_i.out HAL.out HQ.out⟩
     case measure => simp [intOf]; omega
  ·
   have g1 : ¬ (i : Int) < (n : Int) := by omega
   obtain rfl : n = i := by omega
   have HV := Lib.hid (show emptyHeld l = true by
    rw [HE.out]; have := HAL.out; rw [← HL.out] at this; exact all_end this)
   go_wp2
   go_ret
   exact .mk (congrArg Value.bool HV.out.symm) (bstep hBa hBa.size hB)

end Go.Proofs.Ytghgfbncijfocaa
