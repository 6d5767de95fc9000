/-
 A step, whole, of the model: PutStep and TakeStep.
-/
import Derived.Test.YtiiaimjlohpemaaGreatStepN
namespace Go.Proofs.YtiiaimjlohpemaaGreat
set_option linter.unusedSimpArgs false
set_option linter.unusedVariables false
open Go.RowKit
set_option linter.unusedVariables false
attribute [local go_sem] OpUpon
attribute [local go_sem ↓] Go.wp_at_zero Go.wp_at_succ

theorem zstep0 {p : Prop} (h : p := by
 refine ret6 (fun W A n c => RgsW w.heap.size W.heap.size W A n c s.rs) gWb gWs w false s lo hi A n cap (⟨at_, v, r, t, seen, tr, sp, ag, re⟩ : Hd) w.heap.size (w.heap.size + 1) (by kernel_rfl) (by kernel_rfl) (by kernel_rfl) (by kernel_rfl) (by kernel_rfl) (by omega) ⟨hB, hx, hy, hz, hw_, hs.below hB hh, Nat.le_trans hh hB.size⟩ ?k0 ?k1 ?k2 ?k3 ?k4 ?k5 ?hQ
 case k0 | k2 | k3 | k4 =>
  intros
  rename_i k
  have kc_ := k.cell
  have kf_ := k.frozen
  refine OpGoes.go fun K hK => ?_
  go_simp
  first | exact hK _ _ ⟨rfl, rfl⟩ | exact hK _ _ rfl
 case k5 =>
  intros
  refine OpGoes.go fun K hK => ?_
  go_simp
  exact hK _ _ ⟨rfl, rfl⟩
 case k1 =>
  intro W' hBW hGW hhW
  refine OpGoes.go fun K hK => ?_
  go_simp
  refine (l3Copy_rgs s A n cap lo hi _ hGW hhW HNT.out).mono ?_
  rintro e w9 ⟨A9, n9, c9, rfl, hG9, hb9⟩
  exact ⟨_, rfl, hK _ _ ⟨_, _, _, rfl, hG9.mono hBW.size (Nat.le_refl _), hb9⟩⟩
 case hQ =>
  intro σ W' A9 n9 c9 e5 hB' k7 k8 hG9
  replace k7 := k7.cell
  replace k8 := k8.cell
  simp only [lexAll]
  go_simp
  go_step
  go_wp2
  refine bodyPost_ret (v := .tuple #[stV s A9 n9 c9, hdV (⟨at_, v, r, t, seen, tr, sp, ag, re⟩ : Hd), .bool false]) (by simp [results, Tryz.results84, go_sem, k7, k8, stV, hdV]) rfl ⟨A9, n9, c9, by rw [HV.out], ?_, hB'⟩
  rw [HV.out]
  exact hG9) : p := h -- d6dec8fd
theorem zstep1 {p : Prop} (h : p := by
 refine ret6 (fun W A n c => RgsW w.heap.size W.heap.size W A n c s.rs) gWb gWs w false s lo hi A n cap (⟨at_, v, r, t, seen, tr, sp, ag, re⟩ : Hd) w.heap.size (w.heap.size + 1) (by kernel_rfl) (by kernel_rfl) (by kernel_rfl) (by kernel_rfl) (by kernel_rfl) (by omega) ⟨hB, hx, hy, hz, hw_, hs.below hB hh, Nat.le_trans hh hB.size⟩ ?k0 ?k1 ?k2 ?k3 ?k4 ?k5 ?hQ
 case k0 | k2 | k3 | k4 =>
  intros
  rename_i k
  have kc_ := k.cell
  have kf_ := k.frozen
  refine OpGoes.go fun K hK => ?_
  go_simp
  first | exact hK _ _ ⟨rfl, rfl⟩ | exact hK _ _ rfl
 case k5 =>
  intros
  refine OpGoes.go fun K hK => ?_
  go_simp
  exact hK _ _ ⟨rfl, rfl⟩
 case k1 =>
  intro W' hBW hGW hhW
  refine OpGoes.go fun K hK => ?_
  go_simp
  refine (l3Copy_rgs s A n cap lo hi _ hGW hhW HNT.out).mono ?_
  rintro e w9 ⟨A9, n9, c9, rfl, hG9, hb9⟩
  exact ⟨_, rfl, hK _ _ ⟨_, _, _, rfl, hG9.mono hBW.size (Nat.le_refl _), hb9⟩⟩
 case hQ =>
  intro σ W' A9 n9 c9 e5 hB' k7 k8 hG9
  replace k7 := k7.cell
  replace k8 := k8.cell
  simp only [lexAll]
  go_simp
  go_step
  go_wp2
  refine bodyPost_ret (v := .tuple #[stV s A9 n9 c9, hdV (⟨at_, v, r, t, seen, tr, sp, ag, re⟩ : Hd), .bool false]) (by simp [results, Tryz.results83, go_sem, k7, k8, stV, hdV]) rfl ⟨A9, n9, c9, by rw [HV.out], ?_, hB'⟩
  rw [HV.out]
  exact hG9) : p := h -- a93e851e
theorem zstep2 {p : Prop} (h : p := by
 go_light
 intro L σ W' hcl hL hC hw hne
 obtain ⟨A5, n5, c5, e5, hp5⟩ := wE hw 5 rfl
 obtain ⟨g8, e8, hg8, x0, x1, x2, x3, x4, hbox8⟩ := wE hw 8 rfl
 clear hw hne
 have HC := Lib.hid hC
 clear hC
 clear hcl hL
 have kc_ := hbox8.cell
 have kf_ := hbox8.frozen
 refine OpGoes.go fun K hK => ?_
 go_simp
 obtain ⟨hB, hx, hy, hM0, hz, hw_⟩ := HC.out
 have hset := sets_all (us := (aS q.1 A5 n5 c5)) hbox8 rfl
 refine hK undef (setCells W' g8 0 (aS q.1 A5 n5 c5)) ⟨⟨(Below.setCells (by omega) _ 0 hB), (BoxAt.sets_ne _ 0 hx (by omega)), (BoxAt.sets_ne _ 0 hy (by omega)), (size_sts hM0 _ 0), (BoxAt.sets_ne _ 0 hz (by omega)), (BoxAt.sets_ne _ 0 hw_ (by omega))⟩, ⟨g8, A5, n5, c5, e8, hg8, hset, ((RgsW.setsT hp5 hbox8 (by decide) (by decide) _ 0).mono (Nat.le_refl _) (Nat.le_of_eq (sets_size _ _ _).symm))⟩, Nat.le_of_eq (sets_size _ _ _).symm, keepV ?_⟩
 exact ⟨fun _ _ ⟨A1_x, n1_x, c1_x, e, hp⟩ => ⟨A1_x, n1_x, c1_x, e, ((RgsW.setsT hp hbox8 (by decide) (by decide) _ 0).mono (Nat.le_refl _) (Nat.le_of_eq (sets_size _ _ _).symm))⟩, fun _ _ ⟨A5_x, n5_x, c5_x, e, hp⟩ => ⟨A5_x, n5_x, c5_x, e, ((RgsW.setsT hp hbox8 (by decide) (by decide) _ 0).mono (Nat.le_refl _) (Nat.le_of_eq (sets_size _ _ _).symm))⟩, fun _ _ ⟨A5_x, n5_x, c5_x, e, hp⟩ => ⟨A5_x, n5_x, c5_x, e, ((RgsW.setsT hp hbox8 (by decide) (by decide) _ 0).mono (Nat.le_refl _) (Nat.le_of_eq (sets_size _ _ _).symm))⟩, fun _ _ ⟨A5_x, n5_x, c5_x, e, hp⟩ => ⟨A5_x, n5_x, c5_x, e, ((RgsW.setsT hp hbox8 (by decide) (by decide) _ 0).mono (Nat.le_refl _) (Nat.le_of_eq (sets_size _ _ _).symm))⟩, fun _ _ _ => ⟨g8, e8, hg8, _, _, _, _, _, hset⟩, fun _ _ ⟨g, e, hg, x0, x1, x2, x3, x4, x5, x6, x7, x8, x9, x10, x11, hx⟩ => ⟨g, e, hg, x0, x1, x2, x3, x4, x5, x6, x7, x8, x9, x10, x11, (BoxAt.sets_ne _ 0 hx (by first | omega | exact box_neM hx hbox8 (by decide)))⟩, fun h => absurd rfl h, fun _ _ ⟨g, e, hg, hx⟩ => ⟨g, e, hg, (BoxAt.sets_ne _ 0 hx (by first | omega | exact box_neM hx hbox8 (by decide)))⟩, trivial⟩) : p := h -- 6f6b5b07
theorem zstep3 {p : Prop} (h : p := by
 go_light
 intro L σ W' hcl hL hC hw hne
 have e6 := wV hw 6 rfl
 obtain ⟨g9, e9, hg9, x0, x1, x2, x3, x4, x5, x6, x7, x8, x9, x10, x11, hbox9⟩ := wE hw 9 rfl
 clear hw hne
 have HC := Lib.hid hC
 clear hC
 clear hcl hL
 have kc_ := hbox9.cell
 have kf_ := hbox9.frozen
 refine OpGoes.go fun K hK => ?_
 go_simp
 obtain ⟨hB, hx, hy, hM0, hz, hw_⟩ := HC.out
 have hset := sets_all (us := (aH q.2.1)) hbox9 rfl
 refine hK undef (setCells W' g9 0 (aH q.2.1)) ⟨⟨(Below.setCells (by omega) _ 0 hB), (BoxAt.sets_ne _ 0 hx (by omega)), (BoxAt.sets_ne _ 0 hy (by omega)), (size_sts hM0 _ 0), (BoxAt.sets_ne _ 0 hz (by omega)), (BoxAt.sets_ne _ 0 hw_ (by omega))⟩, ⟨g9, e9, hg9, hset⟩, Nat.le_of_eq (sets_size _ _ _).symm, keepV ?_⟩
 exact ⟨fun _ _ ⟨A1_x, n1_x, c1_x, e, hp⟩ => ⟨A1_x, n1_x, c1_x, e, ((RgsW.setsT hp hbox9 (by decide) (by decide) _ 0).mono (Nat.le_refl _) (Nat.le_of_eq (sets_size _ _ _).symm))⟩, fun _ _ ⟨A5_x, n5_x, c5_x, e, hp⟩ => ⟨A5_x, n5_x, c5_x, e, ((RgsW.setsT hp hbox9 (by decide) (by decide) _ 0).mono (Nat.le_refl _) (Nat.le_of_eq (sets_size _ _ _).symm))⟩, fun _ _ ⟨A5_x, n5_x, c5_x, e, hp⟩ => ⟨A5_x, n5_x, c5_x, e, ((RgsW.setsT hp hbox9 (by decide) (by decide) _ 0).mono (Nat.le_refl _) (Nat.le_of_eq (sets_size _ _ _).symm))⟩, fun _ _ ⟨A5_x, n5_x, c5_x, e, hp⟩ => ⟨A5_x, n5_x, c5_x, e, ((RgsW.setsT hp hbox9 (by decide) (by decide) _ 0).mono (Nat.le_refl _) (Nat.le_of_eq (sets_size _ _ _).symm))⟩, fun _ _ ⟨g, e, hg, x0, x1, x2, x3, x4, hx⟩ => ⟨g, e, hg, x0, x1, x2, x3, x4, (BoxAt.sets_ne _ 0 hx (by first | omega | exact box_neM hx hbox9 (by decide)))⟩, fun _ _ _ => ⟨g9, e9, hg9, _, _, _, _, _, _, _, _, _, _, _, _, hset⟩, fun _ _ ⟨g, A5, n5, c5, e, hg, hx, hp⟩ => ⟨g, A5, n5, c5, e, hg, (BoxAt.sets_ne _ 0 hx (by first | omega | exact box_neM hx hbox9 (by decide))), ((RgsW.setsT hp hbox9 (by decide) (by decide) _ 0).mono (Nat.le_refl _) (Nat.le_of_eq (sets_size _ _ _).symm))⟩, fun h => absurd rfl h, trivial⟩) : p := h -- dd8ab9d0
theorem zstep4 {p : Prop} (h : p := by
 intros
 rename_i k
 have kc_ := k.cell
 have kf_ := k.frozen
 refine OpGoes.go fun K hK => ?_
 go_simp
 first | exact hK _ _ ⟨rfl, rfl⟩ | exact hK _ _ rfl) : p := h -- e92ca8c3
theorem zstep5 {p : Prop} (h : p := by
 clear hw hcl hL hC
 refine OpGoes.go fun K hK => ?_
 go_simp
 exact hK _ _ ⟨rfl, rfl⟩) : p := h -- ee92c020
theorem zstep6 {p : Prop} (h : p := by
 go_light
 intro L σ W' hcl hL hC hw
 obtain ⟨A1, n1, c1, e1, hp1⟩ := wE hw 1 rfl
 have e2 := wV hw 2 rfl
 clear hw
 have HC := Lib.hid hC
 clear hC
 clear hcl hL
 refine OpGoes.go fun K hK => ?_
 go_simp
 obtain ⟨hB, hx, hy, hM0, hz, hw_⟩ := HC.out
 refine (HTK.out _ _ _ _ hB hM0 hp1).mono ?_
 rintro e w1 ⟨A5, n5, c5, rfl, hG5, hb1⟩
 exact ⟨_, rfl, hK _ _ ⟨⟨bstep hB hB.size hb1, hx.below hb1 hx.lt, hy.below hb1 hy.lt, Nat.le_trans hM0 hb1.size, hz.below hb1 hz.lt, hw_.below hb1 hw_.lt⟩, ⟨A5, n5, c5, rfl, hG5⟩, hb1⟩⟩) : p := h -- 48b33f8f
theorem zstep7 {p : Prop} (h : p := by
 go_light
 intro L σ W' hcl hL hC hw
 clear hw
 have HC := Lib.hid hC
 clear hC
 clear hcl hL
 refine OpGoes.go fun K hK => ?_
 go_simp
 obtain ⟨hB, hx, hy, hM0, hz, hw_⟩ := HC.out
 have hb1 : Below W'.heap.size W' (W'.alloc (.cells zH 106)) := (Below.refl _ _).alloc (Nat.le_refl _) _
 exact hK _ _ ⟨⟨bstep hB hB.size hb1, hx.below hb1 hx.lt, hy.below hb1 hy.lt, Nat.le_trans hM0 hb1.size, hz.below hb1 hz.lt, hw_.below hb1 hw_.lt⟩, ⟨_, rfl, hM0, _, _, _, _, _, _, _, _, _, _, _, _, BoxAt.new _ _ _⟩, hb1, rfl, by simp⟩) : p := h -- 57caaaa6
theorem zstep8 {p : Prop} (h : p := by
 go_light
 intro L σ W' hcl hL hC hw
 have e0 := wV hw 0 rfl
 clear hw
 have HC := Lib.hid hC
 clear hC
 clear hcl hL
 refine OpGoes.go fun K hK => ?_
 go_simp
 obtain ⟨hB, hx, hy, hM0, hz, hw_⟩ := HC.out
 refine (HCPY.out _ hB).mono ?_
 rintro e w1 ⟨A1, n1, c1, rfl, hG5, hb1⟩
 exact ⟨_, rfl, hK _ _ ⟨⟨bstep hB hB.size hb1, hx.below hb1 hx.lt, hy.below hb1 hy.lt, Nat.le_trans hM0 hb1.size, hz.below hb1 hz.lt, hw_.below hb1 hw_.lt⟩, ⟨A1, n1, c1, rfl, hG5.mono hM0 (Nat.le_refl _)⟩, hb1⟩⟩) : p := h -- 6d8b3c44
theorem zstep9 {p : Prop} (h : p := by
 go_light
 intro L σ W' hcl hL hC hw
 clear hw
 have HC := Lib.hid hC
 clear hC
 clear hcl hL
 refine OpGoes.go fun K hK => ?_
 go_simp
 obtain ⟨hB, hx, hy, hM0, hz, hw_⟩ := HC.out
 have hb1 : Below W'.heap.size W' (W'.alloc (.cells zS 64)) := (Below.refl _ _).alloc (Nat.le_refl _) _
 exact hK _ _ ⟨⟨bstep hB hB.size hb1, hx.below hb1 hx.lt, hy.below hb1 hy.lt, Nat.le_trans hM0 hb1.size, hz.below hb1 hz.lt, hw_.below hb1 hw_.lt⟩, ⟨_, rfl, hM0, _, _, _, _, _, BoxAt.new _ _ _⟩, hb1, rfl, by simp⟩) : p := h -- db6fb728
theorem zstep10 {p : Prop} (h : p := by
 have kz := hz.cell
 have fz := hz.frozen
 have kw := hw_.cell
 have fw := hw_.frozen
 go_wp2
 refine bodyPost_ret (v := .tuple #[stV .zero none 0 0, hdV .zero, .bool false]) (by simp [results, Tryz.results84, go_sem, kz, kw, stV, St.zero, hdV, Hd.zero]) rfl ⟨none, 0, 0, by rw [HV.out], ?_, ?_⟩
 · rw [HV.out]; exact RgsW.nil
 · exact Below.setCells (by omega) zH 0 (Below.setCells (by omega) zS 0 hB)) : p := h -- 9305a354
theorem zstep11 {p : Prop} (h : p := by
 have kz := hz.cell
 have fz := hz.frozen
 have kw := hw_.cell
 have fw := hw_.frozen
 go_wp2
 refine bodyPost_ret (v := .tuple #[stV .zero none 0 0, hdV .zero, .bool false]) (by simp [results, Tryz.results83, go_sem, kz, kw, stV, St.zero, hdV, Hd.zero]) rfl ⟨none, 0, 0, by rw [HV.out], ?_, ?_⟩
 · rw [HV.out]; exact RgsW.nil
 · exact Below.setCells (by omega) zH 0 (Below.setCells (by omega) zS 0 hB)) : p := h -- c128d5ca
theorem zstep12 {p : Prop} (h : p := by
 intro σ L W' hall hC hRR
 obtain ⟨hB, hx, hy, hM0, hz, hw_⟩ := hC
 obtain ⟨g8, A5, n5, c5, e8, hg10, s10, hp10⟩ := dE hRR 10 rfl
 obtain ⟨g9, e9, hg11, s11⟩ := dE hRR 11 rfl
 have e12 := dV hRR 12 rfl
 clear hRR
 simp only [lexAll]
 go_simp
 go_step
 go_meet
 exact ⟨hB, hx, hy, hz, hw_, hM0, g8, g9, A5, n5, c5, hg10, hg11, s10, s11, hp10, rfl, rfl, rfl⟩) : p := h -- 855f0b06
theorem zstep13 {p : Prop} (h : p := by
 go_light
 intro L σ W' hcl hL hC hw
 obtain ⟨A5, n5, c5, e3, hp3⟩ := wE hw 3 rfl
 clear hw hcl hL hC
 refine OpGoes.go fun K hK => ?_
 go_simp
 exact hK _ _ ⟨rfl, ⟨A5, n5, c5, rfl, hp3⟩⟩) : p := h -- 8d51af4d
theorem zstep14 {p : Prop} (h : p := by
 go_light
 intro L σ W' hcl hL hC hw
 obtain ⟨A5, n5, c5, e4, hp4⟩ := wE hw 4 rfl
 clear hw hcl hL hC
 refine OpGoes.go fun K hK => ?_
 go_simp
 exact hK _ _ ⟨rfl, ⟨A5, n5, c5, rfl, hp4⟩⟩) : p := h -- af5662db

def RetS (lo : Nat) (s : St) (w : World) (e : Ending) (w' : World) : Prop :=
 ∃ A n cap, e = .returned (stV s A n cap) ∧ RgsW lo w'.heap.size w' A n cap s.rs ∧ Below w.heap.size w w'
theorem l3Copy_rgs (s : St) (A : Option Addr) (n cap lo hi : Nat) (w : World) (hs : RgsW lo hi w A n cap s.rs) (hh : hi ≤ w.heap.size) (hn : Neat s) :
  Calls Tryz.prog 69 #[stV s A n cap] w (RetS w.heap.size s w) := by
 have hl := hs.1
 refine (l3Copy_any s A n cap lo hi w hs hh (by have := hn.1; omega) (by have := hn.2.1; omega) hn.cp).mono ?_
 rintro e w' ⟨b, c, rows, rfl, hR, hC, hb⟩
 exact ⟨_, _, _, rfl, hC.rgs hR hl, hb⟩
theorem hd_at {h : Hd} (hok : h.ok = true) : h.at_ ≤ 24 := by
 simp only [Hd.ok, Hd.okA, Bool.and_eq_true, inB, decide_eq_true_eq] at hok
 omega
def lateB (z : Int) : Bool := !decide (z < 13)

def ts5V (s : St) (N M0 n cap : Nat) (A : Option Addr) (at_ v r t : Int) (seen : Pl) (tr sp : Int) (ag : Bool) (re : Int) (q : St × Hd × Bool) : List Sl := [.v (.agg (aS s A n cap)),
 .e fun σ w => ∃ (A1 : Option Addr) (n1 c1 : Nat), σ 1 = .agg (aS s A1 n1 c1) ∧ RgsW M0 w.heap.size w A1 n1 c1 s.rs,
 .v (.agg (dH at_ v r t seen tr sp ag re)),
 .e fun σ w => ∃ (A5 : Option Addr) (n5 c5 : Nat), σ 3 = .tuple #[.agg (aS q.1 A5 n5 c5), .agg (aH q.2.1), q.2.2] ∧ RgsW M0 w.heap.size w A5 n5 c5 q.1.rs,
 .e fun σ w => ∃ (A5 : Option Addr) (n5 c5 : Nat), σ 4 = .tuple #[.agg (aS q.1 A5 n5 c5), .agg (aH q.2.1), q.2.2] ∧ RgsW M0 w.heap.size w A5 n5 c5 q.1.rs,
 .e fun σ w => ∃ (A5 : Option Addr) (n5 c5 : Nat), σ 5 = .agg (aS q.1 A5 n5 c5) ∧ RgsW M0 w.heap.size w A5 n5 c5 q.1.rs,
 .v (.agg (aH q.2.1)),
 .v (.bool q.2.2),
 .e fun σ w => ∃ g8, σ 8 = pT g8 ∧ M0 ≤ g8 ∧ ∃ x0 x1 x2 x3 x4, BoxAt w g8 #[x0, x1, x2, x3, x4] 64,
 .e fun σ w => ∃ g9, σ 9 = pT g9 ∧ M0 ≤ g9 ∧ ∃ x0 x1 x2 x3 x4 x5 x6 x7 x8 x9 x10 x11, BoxAt w g9 #[x0, x1, x2, x3, x4, x5, x6, x7, x8, x9, x10, x11] 106,
 .e fun σ w => ∃ (g8 : Nat) (A5 : Option Addr) (n5 c5 : Nat), σ 8 = pT g8 ∧ M0 ≤ g8 ∧ BoxAt w g8 (aS q.1 A5 n5 c5) 64 ∧ RgsW M0 w.heap.size w A5 n5 c5 q.1.rs,
 .e fun σ w => ∃ g9, σ 9 = pT g9 ∧ M0 ≤ g9 ∧ BoxAt w g9 (aH q.2.1) 106,
 .v (.bool q.2.2)]

set_option maxRecDepth 100000 in
set_option maxHeartbeats 4000000 in
theorem stakeStep_any (s : St) (A : Option Addr) (n cap lo hi : Nat) (h : Hd) (w : World) (hs : RgsW lo hi w A n cap s.rs) (hh : hi ≤ w.heap.size) (hm : n ≤ 1048576) (hpn : ∀ r ∈ s.rs, r.ps.length ≤ 1048576) :
  Calls Tryz.prog 84 #[stV s A n cap, hdV h] w (RetSHB w.heap.size (stepS takeS lateB s h) w) := by
 have HPN := Lib.hid hpn; clear hpn
 have HLN := Lib.hid hs.1
 obtain ⟨at_, v, r, t, seen, tr, sp, ag, re⟩ := h
 unfold stV hdV
 dsimp only
 go_enter Tryz.func84, Tryz.ntmps84
 go_upto_region 1 with fail
 refine wp_abs (fun W => Below w.heap.size w W ∧ BoxAt W w.heap.size (aS s A n cap) 64 ∧ BoxAt W (w.heap.size + 1) (dH at_ v r t seen tr sp ag re) 106 ∧ BoxAt W (w.heap.size + 1 + 1) zS 64 ∧ BoxAt W (w.heap.size + 1 + 1 + 1) zH 106) ⟨(((((Below.refl _ _).alloc (Nat.le_refl _) _).alloc (by simp) _).alloc (by simp; omega) _).alloc (by simp; omega) _), (((BoxAt.new _ _ _).alloc _).alloc _).alloc _, ((BoxAt.new' (by simp)).alloc _).alloc _, (BoxAt.new' (by simp)).alloc _, BoxAt.new' (by simp)⟩ ?_
 rintro W0 ⟨hB, hx, hy, hz, hw_⟩
 have lw0 := hw_.lt
 have hs0 := hs.below hB hh
 have kx := hx.cell
 have ky := hy.cell
 have fy := hy.frozen
 go_wp2_with fail
 clear kx ky fy
 refine (sstoreOk_any s A n cap lo hi _ hs0 (Nat.le_trans hh hB.size) hm HPN.out).mono ?_
 rintro e w1 ⟨rfl, hb⟩
 replace hx := hx.below hb hx.lt
 replace hy := hy.below hb hy.lt
 replace hz := hz.below hb hz.lt
 replace hw_ := hw_.below hb hw_.lt
 replace hB := bstep hB hB.size hb
 have h1 := hb.size
 clear hb
 clear hs0
 cases hok : stOk s
 ·
  have HV := Lib.hid (show stepS takeS lateB s (⟨at_, v, r, t, seen, tr, sp, ag, re⟩ : Hd) = (St.zero, Hd.zero, false) by simp [stepS, hok])
  exact zstep10
 have HOK := Lib.hid hok
 have HNT := Lib.hid (stOk_neat hok)
 clear hok
 have ky := hy.cell
 go_wp2_with fail
 clear ky
 refine (shandOk_any (⟨at_, v, r, t, seen, tr, sp, ag, re⟩ : Hd) _).mono ?_
 rintro e w2 ⟨rfl, hb⟩
 replace hx := hx.below hb hx.lt
 replace hy := hy.below hb hy.lt
 replace hz := hz.below hb hz.lt
 replace hw_ := hw_.below hb hw_.lt
 replace hB := bstep hB hB.size hb
 have h2 := hb.size
 clear hb
 cases hho : (⟨at_, v, r, t, seen, tr, sp, ag, re⟩ : Hd).ok
 ·
  have HV := Lib.hid (show stepS takeS lateB s (⟨at_, v, r, t, seen, tr, sp, ag, re⟩ : Hd) = (St.zero, Hd.zero, false) by simp [stepS, HOK.out, hho])
  exact zstep10
 have HHO := Lib.hid hho
 clear hho
 have HCPY := Lib.hid (show ∀ W : World, Below w.heap.size w W → Calls Tryz.prog 69 #[stV s A n cap] W (RetS W.heap.size s W) from fun W hBW => l3Copy_rgs s A n cap lo hi W (hs.below hBW hh) (Nat.le_trans hh hBW.size) HNT.out)
 unfold stV at HCPY
 have kx := hx.cell
 have ky := hy.cell
 by_cases h13 : at_ < 13
 ·
  have HV := Lib.hid (show stepS takeS lateB s (⟨at_, v, r, t, seen, tr, sp, ag, re⟩ : Hd) = (s, (⟨at_, v, r, t, seen, tr, sp, ag, re⟩ : Hd), false) by simp [stepS, HOK.out, HHO.out, lateB, h13])
  go_upto_region 4 with fail
  clear kx ky
  exact zstep0
 go_wp2_with fail
 clear kx ky
 refine (l4Ring_any s A n cap r _ HLN.out hm).mono ?_
 rintro e w3 ⟨rfl, hb⟩
 replace hx := hx.below hb hx.lt
 replace hy := hy.below hb hy.lt
 replace hz := hz.below hb hz.lt
 replace hw_ := hw_.below hb hw_.lt
 replace hB := bstep hB hB.size hb
 have h3 := hb.size
 clear hb
 cases hrb : ringB s r
 ·
  have HV := Lib.hid (show stepS takeS lateB s (⟨at_, v, r, t, seen, tr, sp, ag, re⟩ : Hd) = (s, (⟨at_, v, r, t, seen, tr, sp, ag, re⟩ : Hd), false) by simp [stepS, HOK.out, HHO.out, hrb])
  go_upto_region 4 with fail
  exact zstep0
 have HTB := Lib.hid (show lateB at_ = true by simp [lateB, h13])
 obtain ⟨q, hq⟩ : ∃ q, takeS s (⟨at_, v, r, t, seen, tr, sp, ag, re⟩ : Hd) = q := ⟨_, rfl⟩
 have HQN := Lib.hid (show Neat q.1 by rw [← hq]; exact takeS_neat HOK.out)
 obtain ⟨M0, hMe⟩ : ∃ M0, M0 = w3.heap.size := ⟨_, rfl⟩
 have hM0 : M0 ≤ w3.heap.size := by omega
 have hM4 : w.heap.size + 4 ≤ M0 := by have := hw_.lt; omega
 clear hMe
 have HTK := Lib.hid (show ∀ (W : World) (A1 : Option Addr) (n1 c1 : Nat), Below w.heap.size w W → M0 ≤ W.heap.size → RgsW M0 W.heap.size W A1 n1 c1 s.rs → Calls Tryz.prog 89 #[stV s A1 n1 c1, hdV (⟨at_, v, r, t, seen, tr, sp, ag, re⟩ : Hd)] W (RetSHB M0 q W) from fun W A1 n1 c1 hBW hMW hG => by
  have := l7Take_any s A1 n1 c1 M0 W.heap.size (⟨at_, v, r, t, seen, tr, sp, ag, re⟩ : Hd) W hG (Nat.le_refl _) hMW HOK.out hrb HHO.out (by have := hd_at HHO.out; simp only [takeB, inB, Bool.and_eq_true, decide_eq_true_eq]; dsimp only at this; omega)
  rw [hq] at this
  exact this)
 unfold stV hdV at HTK
 have HRB := Lib.hid hrb
 have HQ := Lib.hid hq
 clear hrb hq
 go_upto_region 5 with fail
 go_cut [7, 8, 9] (fun u7 u8 u9 W' => Below w.heap.size w W' ∧ BoxAt W' w.heap.size (aS s A n cap) 64 ∧ BoxAt W' (w.heap.size + 1) (dH at_ v r t seen tr sp ag re) 106 ∧ BoxAt W' (w.heap.size + 1 + 1) zS 64 ∧ BoxAt W' (w.heap.size + 1 + 1 + 1) zH 106 ∧ M0 ≤ W'.heap.size ∧ ∃ (X Y : Nat) (A5 : Option Addr) (n5 c5 : Nat), M0 ≤ X ∧ M0 ≤ Y ∧ BoxAt W' X (aS q.1 A5 n5 c5) 64 ∧ BoxAt W' Y (aH q.2.1) 106 ∧ RgsW M0 W'.heap.size W' A5 n5 c5 q.1.rs ∧ u7 = pT X ∧ u8 = pT Y ∧ u9 = .bool q.2.2)
 case first =>
  refine wp_region2v (fun w w' => Below w.heap.size w w') (fun _ _ h => h.size) (fun _ => Below.refl _ _) (fun L W' => Below w.heap.size w W' ∧ BoxAt W' w.heap.size (aS s A n cap) 64 ∧ BoxAt W' (w.heap.size + 1) (dH at_ v r t seen tr sp ag re) 106 ∧ M0 ≤ W'.heap.size ∧ BoxAt W' (w.heap.size + 1 + 1) zS 64 ∧ BoxAt W' (w.heap.size + 1 + 1 + 1) zH 106) (ts5V s w.heap.size M0 n cap A at_ v r t seen tr sp ag re q) (fun j => [0, 0, 0, 0, 0, 0, 0, 0, 2, 2, 1, 1, 0].getD j 0) [(10, 8), (11, 9)] (by kernel_rfl) (by kernel_rfl) ?_ ?_ ?_
   (.still rfl ?a0 <| .grow rfl ?a1 <| .still rfl ?a2 <| .grow rfl ?a3 <| .still rfl ?a4 <| .still rfl ?a5 <| .still rfl ?a6 <| .still rfl ?a7 <| .make rfl ?a8 <| .make rfl ?a9 <| .store rfl ?a10 <| .store rfl ?a11 <| .still rfl ?a12 <| .nil) ?_ ?_
  · exact ⟨fun _ _ _ h ⟨A1, n1, c1, e, hp⟩ => ⟨A1, n1, c1, (h 1 (List.mem_singleton.2 rfl)).symm.trans e, hp⟩, fun _ _ _ h ⟨A5, n5, c5, e, hp⟩ => ⟨A5, n5, c5, (h 3 (List.mem_singleton.2 rfl)).symm.trans e, hp⟩, fun _ _ _ h ⟨A5, n5, c5, e, hp⟩ => ⟨A5, n5, c5, (h 4 (List.mem_singleton.2 rfl)).symm.trans e, hp⟩, fun _ _ _ h ⟨A5, n5, c5, e, hp⟩ => ⟨A5, n5, c5, (h 5 (List.mem_singleton.2 rfl)).symm.trans e, hp⟩, fun _ _ _ h ⟨g, e, hp⟩ => ⟨g, (h 8 (List.mem_singleton.2 rfl)).symm.trans e, hp⟩, fun _ _ _ h ⟨g, e, hp⟩ => ⟨g, (h 9 (List.mem_singleton.2 rfl)).symm.trans e, hp⟩, fun _ _ _ h ⟨g, A5, n5, c5, e, hp⟩ => ⟨g, A5, n5, c5, (h 8 (List.mem_singleton.2 rfl)).symm.trans e, hp⟩, fun _ _ _ h ⟨g, e, hp⟩ => ⟨g, (h 9 (List.mem_singleton.2 rfl)).symm.trans e, hp⟩, trivial⟩
  · exact ⟨fun σ w w' hb ⟨A1, n1, c1, e, hp⟩ => ⟨A1, n1, c1, e, (hp.below hb (Nat.le_refl _)).mono (Nat.le_refl _) hb.size⟩, fun σ w w' hb ⟨A5, n5, c5, e, hp⟩ => ⟨A5, n5, c5, e, (hp.below hb (Nat.le_refl _)).mono (Nat.le_refl _) hb.size⟩, fun σ w w' hb ⟨A5, n5, c5, e, hp⟩ => ⟨A5, n5, c5, e, (hp.below hb (Nat.le_refl _)).mono (Nat.le_refl _) hb.size⟩, fun σ w w' hb ⟨A5, n5, c5, e, hp⟩ => ⟨A5, n5, c5, e, (hp.below hb (Nat.le_refl _)).mono (Nat.le_refl _) hb.size⟩, fun σ w w' hb ⟨g, e, hg, x0, x1, x2, x3, x4, hx⟩ => ⟨g, e, hg, x0, x1, x2, x3, x4, hx.below hb hx.lt⟩, fun σ w w' hb ⟨g, e, hg, x0, x1, x2, x3, x4, x5, x6, x7, x8, x9, x10, x11, hx⟩ => ⟨g, e, hg, x0, x1, x2, x3, x4, x5, x6, x7, x8, x9, x10, x11, hx.below hb hx.lt⟩, fun σ w w' hb ⟨g, A5, n5, c5, e, hg, hx, hp⟩ => ⟨g, A5, n5, c5, e, hg, hx.below hb hx.lt, (hp.below hb (Nat.le_refl _)).mono (Nat.le_refl _) hb.size⟩, fun σ w w' hb ⟨g, e, hg, hx⟩ => ⟨g, e, hg, hx.below hb hx.lt⟩, trivial⟩
  · exact ⟨hB.drew, hx, hy, hM0, hz, hw_⟩
  case a0 =>
   go_light
   intro L σ W' hcl hL hC hw
   have ks := hC.2.1.cell
   exact zstep5
  case a2 =>
   go_light
   intro L σ W' hcl hL hC hw
   have kh := hC.2.2.1.cell
   exact zstep5
  case a12 =>
   go_light
   intro L σ W' hcl hL hC hw
   have e7 := wV hw 7 rfl
   exact zstep5
  case a1 =>
   exact zstep8
  case a3 =>
   exact zstep6
  case a4 =>
   exact zstep13
  case a5 =>
   exact zstep14
  case a6 =>
   go_light
   intro L σ W' hcl hL hC hw
   obtain ⟨A5, n5, c5, e4, hp4⟩ := wE hw 4 rfl
   exact zstep5
  case a7 =>
   go_light
   intro L σ W' hcl hL hC hw
   obtain ⟨A5, n5, c5, e4, hp4⟩ := wE hw 4 rfl
   exact zstep5
  case a8 =>
   exact zstep9
  case a9 =>
   exact zstep7
  case a10 =>
   exact zstep2
  case a11 =>
   exact zstep3
  ·
   intro L L' W' hLL hC
   obtain ⟨hB, hx, hy, hM0, hz, hw_⟩ := hC
   exact ⟨hB, hx, hy, hM0, hz, hw_⟩
  ·
   exact zstep12
 case rest =>
  clear hB hx hy hz hw_ hM0
  obtain ⟨hB, hx, hy, hz, hw_, hM0, X, Y, A5, n5, c5, hXM, hYM, hX, hY, hG, rfl, rfl, rfl⟩ := hcut
  cases hq2 : q.2.2
  ·
   have HV := Lib.hid (show stepS takeS lateB s (⟨at_, v, r, t, seen, tr, sp, ag, re⟩ : Hd) = (s, (⟨at_, v, r, t, seen, tr, sp, ag, re⟩ : Hd), false) by simp [stepS, HOK.out, HHO.out, HTB.out, HRB.out, HQ.out, hq2])
   go_upto_region 7 with fail
   exact zstep0
  ·
   have HQ2 := Lib.hid hq2; clear hq2
   have kX := hX.cell
   go_wp2_with fail
   clear kX
   refine (sstoreOk_any q.1 A5 n5 c5 M0 wc.heap.size _ hG (Nat.le_refl _) (by have := hG.1; have := HQN.out.2.1; omega) HQN.out.len).mono ?_
   rintro e w4 ⟨rfl, hb⟩
   replace hX := hX.below hb hX.lt
   replace hY := hY.below hb hY.lt
   replace hG := (hG.below hb (Nat.le_refl _)).mono (Nat.le_refl _) hb.size
   replace hx := hx.below hb hx.lt
   replace hy := hy.below hb hy.lt
   replace hz := hz.below hb hz.lt
   replace hw_ := hw_.below hb hw_.lt
   replace hB := bstep hB hB.size hb
   have h4 := hb.size
   clear hb
   cases hsq : stOk q.1
   ·
    have HV := Lib.hid (show stepS takeS lateB s (⟨at_, v, r, t, seen, tr, sp, ag, re⟩ : Hd) = (s, (⟨at_, v, r, t, seen, tr, sp, ag, re⟩ : Hd), false) by simp [stepS, HOK.out, HHO.out, HTB.out, HRB.out, HQ.out, HQ2.out, hsq])
    go_upto_region 7 with fail
    exact zstep0
   ·
    have HSQ := Lib.hid hsq; clear hsq
    go_upto_region 8 with fail
    clear HCPY HTK
    have HV := Lib.hid (show stepS takeS lateB s (⟨at_, v, r, t, seen, tr, sp, ag, re⟩ : Hd) = (q.1, q.2.1, true) by simp [stepS, HOK.out, HHO.out, HTB.out, HRB.out, HQ.out, HQ2.out, HSQ.out])
    refine ret4b w true q.1 M0 w4.heap.size A5 n5 c5 q.2.1 X Y (by kernel_rfl) (by kernel_rfl) (by kernel_rfl) (by kernel_rfl) (by omega) (by omega) ⟨hB, hX, hY, hz, hw_, hG, Nat.le_refl _⟩ ?k0 ?k1 ?k2 ?k3 ?k4 ?hQ
    case k0 | k1 | k2 | k3 =>
     exact zstep4
    case k4 =>
     intros
     refine OpGoes.go fun K hK => ?_
     go_simp
     exact hK _ _ ⟨rfl, rfl⟩
    case hQ =>
     clear hB hX hY hx hy hz hw_ hG
     generalize hq2 : q.2.1 = h2 at *
     clear hq2
     intro σ W' e_ hB k7 k8 hG _
     replace k7 := k7.cell
     replace k8 := k8.cell
     simp only [lexAll]
     go_simp
     go_step
     go_wp2
     refine bodyPost_ret (v := .tuple #[stV q.1 A5 n5 c5, hdV h2, .bool true]) (by simp [results, Tryz.results84, go_sem, k7, k8, stV, hdV, Hd.rest, Hd.zero]) rfl ⟨A5, n5, c5, by rw [HV.out], ?_, hB⟩
     rw [HV.out]
     exact hG.cut.mono (by omega) (Nat.le_refl _)

def ps5V (s : St) (N M0 n cap : Nat) (A : Option Addr) (at_ v r t : Int) (seen : Pl) (tr sp : Int) (ag : Bool) (re : Int) (q : St × Hd × Bool) : List Sl := [.v (.agg (aS s A n cap)),
 .e fun σ w => ∃ (A1 : Option Addr) (n1 c1 : Nat), σ 1 = .agg (aS s A1 n1 c1) ∧ RgsW M0 w.heap.size w A1 n1 c1 s.rs,
 .v (.agg (dH at_ v r t seen tr sp ag re)),
 .e fun σ w => ∃ (A5 : Option Addr) (n5 c5 : Nat), σ 3 = .tuple #[.agg (aS q.1 A5 n5 c5), .agg (aH q.2.1), q.2.2] ∧ RgsW M0 w.heap.size w A5 n5 c5 q.1.rs,
 .e fun σ w => ∃ (A5 : Option Addr) (n5 c5 : Nat), σ 4 = .tuple #[.agg (aS q.1 A5 n5 c5), .agg (aH q.2.1), q.2.2] ∧ RgsW M0 w.heap.size w A5 n5 c5 q.1.rs,
 .e fun σ w => ∃ (A5 : Option Addr) (n5 c5 : Nat), σ 5 = .agg (aS q.1 A5 n5 c5) ∧ RgsW M0 w.heap.size w A5 n5 c5 q.1.rs,
 .v (.agg (aH q.2.1)),
 .v (.bool q.2.2),
 .e fun σ w => ∃ g8, σ 8 = pT g8 ∧ M0 ≤ g8 ∧ ∃ x0 x1 x2 x3 x4, BoxAt w g8 #[x0, x1, x2, x3, x4] 64,
 .e fun σ w => ∃ g9, σ 9 = pT g9 ∧ M0 ≤ g9 ∧ ∃ x0 x1 x2 x3 x4 x5 x6 x7 x8 x9 x10 x11, BoxAt w g9 #[x0, x1, x2, x3, x4, x5, x6, x7, x8, x9, x10, x11] 106,
 .e fun σ w => ∃ (g8 : Nat) (A5 : Option Addr) (n5 c5 : Nat), σ 8 = pT g8 ∧ M0 ≤ g8 ∧ BoxAt w g8 (aS q.1 A5 n5 c5) 64 ∧ RgsW M0 w.heap.size w A5 n5 c5 q.1.rs,
 .e fun σ w => ∃ g9, σ 9 = pT g9 ∧ M0 ≤ g9 ∧ BoxAt w g9 (aH q.2.1) 106,
 .v (.bool q.2.2)]

set_option maxRecDepth 100000 in
set_option maxHeartbeats 4000000 in
theorem sputStep_any (s : St) (A : Option Addr) (n cap lo hi : Nat) (h : Hd) (w : World) (hs : RgsW lo hi w A n cap s.rs) (hh : hi ≤ w.heap.size) (hm : n ≤ 1048576) (hpn : ∀ r ∈ s.rs, r.ps.length ≤ 1048576) :
  Calls Tryz.prog 83 #[stV s A n cap, hdV h] w (RetSHB w.heap.size (stepS putS putB s h) w) := by
 have HPN := Lib.hid hpn; clear hpn
 have HLN := Lib.hid hs.1
 obtain ⟨at_, v, r, t, seen, tr, sp, ag, re⟩ := h
 unfold stV hdV
 dsimp only
 go_enter Tryz.func83, Tryz.ntmps83
 go_upto_region 1 with fail
 refine wp_abs (fun W => Below w.heap.size w W ∧ BoxAt W w.heap.size (aS s A n cap) 64 ∧ BoxAt W (w.heap.size + 1) (dH at_ v r t seen tr sp ag re) 106 ∧ BoxAt W (w.heap.size + 1 + 1) zS 64 ∧ BoxAt W (w.heap.size + 1 + 1 + 1) zH 106) ⟨(((((Below.refl _ _).alloc (Nat.le_refl _) _).alloc (by simp) _).alloc (by simp; omega) _).alloc (by simp; omega) _), (((BoxAt.new _ _ _).alloc _).alloc _).alloc _, ((BoxAt.new' (by simp)).alloc _).alloc _, (BoxAt.new' (by simp)).alloc _, BoxAt.new' (by simp)⟩ ?_
 rintro W0 ⟨hB, hx, hy, hz, hw_⟩
 have lw0 := hw_.lt
 have hs0 := hs.below hB hh
 have kx := hx.cell
 have ky := hy.cell
 have fy := hy.frozen
 go_wp2_with fail
 clear kx ky fy
 refine (sstoreOk_any s A n cap lo hi _ hs0 (Nat.le_trans hh hB.size) hm HPN.out).mono ?_
 rintro e w1 ⟨rfl, hb⟩
 replace hx := hx.below hb hx.lt
 replace hy := hy.below hb hy.lt
 replace hz := hz.below hb hz.lt
 replace hw_ := hw_.below hb hw_.lt
 replace hB := bstep hB hB.size hb
 have h1 := hb.size
 clear hb
 clear hs0
 cases hok : stOk s
 ·
  have HV := Lib.hid (show stepS putS putB s (⟨at_, v, r, t, seen, tr, sp, ag, re⟩ : Hd) = (St.zero, Hd.zero, false) by simp [stepS, hok])
  exact zstep11
 have HOK := Lib.hid hok
 have HNT := Lib.hid (stOk_neat hok)
 clear hok
 have ky := hy.cell
 go_wp2_with fail
 clear ky
 refine (shandOk_any (⟨at_, v, r, t, seen, tr, sp, ag, re⟩ : Hd) _).mono ?_
 rintro e w2 ⟨rfl, hb⟩
 replace hx := hx.below hb hx.lt
 replace hy := hy.below hb hy.lt
 replace hz := hz.below hb hz.lt
 replace hw_ := hw_.below hb hw_.lt
 replace hB := bstep hB hB.size hb
 have h2 := hb.size
 clear hb
 cases hho : (⟨at_, v, r, t, seen, tr, sp, ag, re⟩ : Hd).ok
 ·
  have HV := Lib.hid (show stepS putS putB s (⟨at_, v, r, t, seen, tr, sp, ag, re⟩ : Hd) = (St.zero, Hd.zero, false) by simp [stepS, HOK.out, hho])
  exact zstep11
 have HHO := Lib.hid hho
 clear hho
 have HCPY := Lib.hid (show ∀ W : World, Below w.heap.size w W → Calls Tryz.prog 69 #[stV s A n cap] W (RetS W.heap.size s W) from fun W hBW => l3Copy_rgs s A n cap lo hi W (hs.below hBW hh) (Nat.le_trans hh hBW.size) HNT.out)
 unfold stV at HCPY
 have kx := hx.cell
 have ky := hy.cell
 go_wp2_with fail
 refine (l5Putting_any at_ _).mono ?_
 rintro e w' ⟨rfl, rfl⟩
 cases hpb : putB at_
 ·
  have HV := Lib.hid (show stepS putS putB s (⟨at_, v, r, t, seen, tr, sp, ag, re⟩ : Hd) = (s, (⟨at_, v, r, t, seen, tr, sp, ag, re⟩ : Hd), false) by simp [stepS, HOK.out, HHO.out, hpb])
  go_upto_region 4 with fail
  clear kx ky
  exact zstep1
 go_wp2_with fail
 clear kx ky
 refine (l4Ring_any s A n cap r _ HLN.out hm).mono ?_
 rintro e w3 ⟨rfl, hb⟩
 replace hx := hx.below hb hx.lt
 replace hy := hy.below hb hy.lt
 replace hz := hz.below hb hz.lt
 replace hw_ := hw_.below hb hw_.lt
 replace hB := bstep hB hB.size hb
 have h3 := hb.size
 clear hb
 cases hrb : ringB s r
 ·
  have HV := Lib.hid (show stepS putS putB s (⟨at_, v, r, t, seen, tr, sp, ag, re⟩ : Hd) = (s, (⟨at_, v, r, t, seen, tr, sp, ag, re⟩ : Hd), false) by simp [stepS, HOK.out, HHO.out, hrb])
  go_upto_region 4 with fail
  exact zstep1
 have HTB := Lib.hid (show putB at_ = true by simp [hpb])
 obtain ⟨q, hq⟩ : ∃ q, putS s (⟨at_, v, r, t, seen, tr, sp, ag, re⟩ : Hd) = q := ⟨_, rfl⟩
 have HQN := Lib.hid (show Neat q.1 by rw [← hq]; exact putS_neat HOK.out)
 obtain ⟨M0, hMe⟩ : ∃ M0, M0 = w3.heap.size := ⟨_, rfl⟩
 have hM0 : M0 ≤ w3.heap.size := by omega
 have hM4 : w.heap.size + 4 ≤ M0 := by have := hw_.lt; omega
 clear hMe
 have HTK := Lib.hid (show ∀ (W : World) (A1 : Option Addr) (n1 c1 : Nat), Below w.heap.size w W → M0 ≤ W.heap.size → RgsW M0 W.heap.size W A1 n1 c1 s.rs → Calls Tryz.prog 88 #[stV s A1 n1 c1, hdV (⟨at_, v, r, t, seen, tr, sp, ag, re⟩ : Hd)] W (RetSHB M0 q W) from fun W A1 n1 c1 hBW hMW hG => by
  have := l6Put_any s A1 n1 c1 M0 W.heap.size (⟨at_, v, r, t, seen, tr, sp, ag, re⟩ : Hd) W hG (Nat.le_refl _) hMW HOK.out hrb HHO.out hpb
  rw [hq] at this
  exact this)
 unfold stV hdV at HTK
 have HRB := Lib.hid hrb
 have HQ := Lib.hid hq
 clear hrb hq
 go_upto_region 5 with fail
 go_cut [7, 8, 9] (fun u7 u8 u9 W' => Below w.heap.size w W' ∧ BoxAt W' w.heap.size (aS s A n cap) 64 ∧ BoxAt W' (w.heap.size + 1) (dH at_ v r t seen tr sp ag re) 106 ∧ BoxAt W' (w.heap.size + 1 + 1) zS 64 ∧ BoxAt W' (w.heap.size + 1 + 1 + 1) zH 106 ∧ M0 ≤ W'.heap.size ∧ ∃ (X Y : Nat) (A5 : Option Addr) (n5 c5 : Nat), M0 ≤ X ∧ M0 ≤ Y ∧ BoxAt W' X (aS q.1 A5 n5 c5) 64 ∧ BoxAt W' Y (aH q.2.1) 106 ∧ RgsW M0 W'.heap.size W' A5 n5 c5 q.1.rs ∧ u7 = pT X ∧ u8 = pT Y ∧ u9 = .bool q.2.2)
 case first =>
  refine wp_region2v (fun w w' => Below w.heap.size w w') (fun _ _ h => h.size) (fun _ => Below.refl _ _) (fun L W' => Below w.heap.size w W' ∧ BoxAt W' w.heap.size (aS s A n cap) 64 ∧ BoxAt W' (w.heap.size + 1) (dH at_ v r t seen tr sp ag re) 106 ∧ M0 ≤ W'.heap.size ∧ BoxAt W' (w.heap.size + 1 + 1) zS 64 ∧ BoxAt W' (w.heap.size + 1 + 1 + 1) zH 106) (ps5V s w.heap.size M0 n cap A at_ v r t seen tr sp ag re q) (fun j => [0, 0, 0, 0, 0, 0, 0, 0, 2, 2, 1, 1, 0].getD j 0) [(10, 8), (11, 9)] (by kernel_rfl) (by kernel_rfl) ?_ ?_ ?_
   (.still rfl ?a0 <| .grow rfl ?a1 <| .still rfl ?a2 <| .grow rfl ?a3 <| .still rfl ?a4 <| .still rfl ?a5 <| .still rfl ?a6 <| .still rfl ?a7 <| .make rfl ?a8 <| .make rfl ?a9 <| .store rfl ?a10 <| .store rfl ?a11 <| .still rfl ?a12 <| .nil) ?_ ?_
  · exact ⟨fun _ _ _ h ⟨A1, n1, c1, e, hp⟩ => ⟨A1, n1, c1, (h 1 (List.mem_singleton.2 rfl)).symm.trans e, hp⟩, fun _ _ _ h ⟨A5, n5, c5, e, hp⟩ => ⟨A5, n5, c5, (h 3 (List.mem_singleton.2 rfl)).symm.trans e, hp⟩, fun _ _ _ h ⟨A5, n5, c5, e, hp⟩ => ⟨A5, n5, c5, (h 4 (List.mem_singleton.2 rfl)).symm.trans e, hp⟩, fun _ _ _ h ⟨A5, n5, c5, e, hp⟩ => ⟨A5, n5, c5, (h 5 (List.mem_singleton.2 rfl)).symm.trans e, hp⟩, fun _ _ _ h ⟨g, e, hp⟩ => ⟨g, (h 8 (List.mem_singleton.2 rfl)).symm.trans e, hp⟩, fun _ _ _ h ⟨g, e, hp⟩ => ⟨g, (h 9 (List.mem_singleton.2 rfl)).symm.trans e, hp⟩, fun _ _ _ h ⟨g, A5, n5, c5, e, hp⟩ => ⟨g, A5, n5, c5, (h 8 (List.mem_singleton.2 rfl)).symm.trans e, hp⟩, fun _ _ _ h ⟨g, e, hp⟩ => ⟨g, (h 9 (List.mem_singleton.2 rfl)).symm.trans e, hp⟩, trivial⟩
  · exact ⟨fun σ w w' hb ⟨A1, n1, c1, e, hp⟩ => ⟨A1, n1, c1, e, (hp.below hb (Nat.le_refl _)).mono (Nat.le_refl _) hb.size⟩, fun σ w w' hb ⟨A5, n5, c5, e, hp⟩ => ⟨A5, n5, c5, e, (hp.below hb (Nat.le_refl _)).mono (Nat.le_refl _) hb.size⟩, fun σ w w' hb ⟨A5, n5, c5, e, hp⟩ => ⟨A5, n5, c5, e, (hp.below hb (Nat.le_refl _)).mono (Nat.le_refl _) hb.size⟩, fun σ w w' hb ⟨A5, n5, c5, e, hp⟩ => ⟨A5, n5, c5, e, (hp.below hb (Nat.le_refl _)).mono (Nat.le_refl _) hb.size⟩, fun σ w w' hb ⟨g, e, hg, x0, x1, x2, x3, x4, hx⟩ => ⟨g, e, hg, x0, x1, x2, x3, x4, hx.below hb hx.lt⟩, fun σ w w' hb ⟨g, e, hg, x0, x1, x2, x3, x4, x5, x6, x7, x8, x9, x10, x11, hx⟩ => ⟨g, e, hg, x0, x1, x2, x3, x4, x5, x6, x7, x8, x9, x10, x11, hx.below hb hx.lt⟩, fun σ w w' hb ⟨g, A5, n5, c5, e, hg, hx, hp⟩ => ⟨g, A5, n5, c5, e, hg, hx.below hb hx.lt, (hp.below hb (Nat.le_refl _)).mono (Nat.le_refl _) hb.size⟩, fun σ w w' hb ⟨g, e, hg, hx⟩ => ⟨g, e, hg, hx.below hb hx.lt⟩, trivial⟩
  · exact ⟨hB.drew, hx, hy, hM0, hz, hw_⟩
  case a0 =>
   go_light
   intro L σ W' hcl hL hC hw
   have ks := hC.2.1.cell
   exact zstep5
  case a2 =>
   go_light
   intro L σ W' hcl hL hC hw
   have kh := hC.2.2.1.cell
   exact zstep5
  case a12 =>
   go_light
   intro L σ W' hcl hL hC hw
   have e7 := wV hw 7 rfl
   exact zstep5
  case a1 =>
   exact zstep8
  case a3 =>
   exact zstep6
  case a4 =>
   exact zstep13
  case a5 =>
   exact zstep14
  case a6 =>
   go_light
   intro L σ W' hcl hL hC hw
   obtain ⟨A5, n5, c5, e4, hp4⟩ := wE hw 4 rfl
   exact zstep5
  case a7 =>
   go_light
   intro L σ W' hcl hL hC hw
   obtain ⟨A5, n5, c5, e4, hp4⟩ := wE hw 4 rfl
   exact zstep5
  case a8 =>
   exact zstep9
  case a9 =>
   exact zstep7
  case a10 =>
   exact zstep2
  case a11 =>
   exact zstep3
  ·
   intro L L' W' hLL hC
   obtain ⟨hB, hx, hy, hM0, hz, hw_⟩ := hC
   exact ⟨hB, hx, hy, hM0, hz, hw_⟩
  ·
   exact zstep12
 case rest =>
  clear hB hx hy hz hw_ hM0
  obtain ⟨hB, hx, hy, hz, hw_, hM0, X, Y, A5, n5, c5, hXM, hYM, hX, hY, hG, rfl, rfl, rfl⟩ := hcut
  cases hq2 : q.2.2
  ·
   have HV := Lib.hid (show stepS putS putB s (⟨at_, v, r, t, seen, tr, sp, ag, re⟩ : Hd) = (s, (⟨at_, v, r, t, seen, tr, sp, ag, re⟩ : Hd), false) by simp [stepS, HOK.out, HHO.out, HTB.out, HRB.out, HQ.out, hq2])
   go_upto_region 7 with fail
   exact zstep1
  ·
   have HQ2 := Lib.hid hq2; clear hq2
   have kX := hX.cell
   go_wp2_with fail
   clear kX
   refine (sstoreOk_any q.1 A5 n5 c5 M0 wc.heap.size _ hG (Nat.le_refl _) (by have := hG.1; have := HQN.out.2.1; omega) HQN.out.len).mono ?_
   rintro e w4 ⟨rfl, hb⟩
   replace hX := hX.below hb hX.lt
   replace hY := hY.below hb hY.lt
   replace hG := (hG.below hb (Nat.le_refl _)).mono (Nat.le_refl _) hb.size
   replace hx := hx.below hb hx.lt
   replace hy := hy.below hb hy.lt
   replace hz := hz.below hb hz.lt
   replace hw_ := hw_.below hb hw_.lt
   replace hB := bstep hB hB.size hb
   have h4 := hb.size
   clear hb
   cases hsq : stOk q.1
   ·
    have HV := Lib.hid (show stepS putS putB s (⟨at_, v, r, t, seen, tr, sp, ag, re⟩ : Hd) = (s, (⟨at_, v, r, t, seen, tr, sp, ag, re⟩ : Hd), false) by simp [stepS, HOK.out, HHO.out, HTB.out, HRB.out, HQ.out, HQ2.out, hsq])
    go_upto_region 7 with fail
    exact zstep1
   ·
    have HSQ := Lib.hid hsq; clear hsq
    go_upto_region 8 with fail
    clear HCPY HTK
    have HV := Lib.hid (show stepS putS putB s (⟨at_, v, r, t, seen, tr, sp, ag, re⟩ : Hd) = (q.1, q.2.1, true) by simp [stepS, HOK.out, HHO.out, HTB.out, HRB.out, HQ.out, HQ2.out, HSQ.out])
    refine ret4b w true q.1 M0 w4.heap.size A5 n5 c5 q.2.1 X Y (by kernel_rfl) (by kernel_rfl) (by kernel_rfl) (by kernel_rfl) (by omega) (by omega) ⟨hB, hX, hY, hz, hw_, hG, Nat.le_refl _⟩ ?k0 ?k1 ?k2 ?k3 ?k4 ?hQ
    case k0 | k1 | k2 | k3 =>
     exact zstep4
    case k4 =>
     intros
     refine OpGoes.go fun K hK => ?_
     go_simp
     exact hK _ _ ⟨rfl, rfl⟩
    case hQ =>
     clear hB hX hY hx hy hz hw_ hG
     generalize hq2 : q.2.1 = h2 at *
     clear hq2
     intro σ W' e_ hB k7 k8 hG _
     replace k7 := k7.cell
     replace k8 := k8.cell
     simp only [lexAll]
     go_simp
     go_step
     go_wp2
     refine bodyPost_ret (v := .tuple #[stV q.1 A5 n5 c5, hdV h2, .bool true]) (by simp [results, Tryz.results83, go_sem, k7, k8, stV, hdV, Hd.rest, Hd.zero]) rfl ⟨A5, n5, c5, by rw [HV.out], ?_, hB⟩
     rw [HV.out]
     exact hG.cut.mono (by omega) (Nat.le_refl _)


end Go.Proofs.YtiiaimjlohpemaaGreat
