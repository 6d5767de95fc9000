/-
 The walk of a step of one who takes, of the model: the steps that swap a place.
-/
import Derived.Test.YthpckpnlohfcbaaGreatDoorTake1
namespace Go.Proofs.YthpckpnlohfcbaaGreatDoor
set_option linter.unusedSimpArgs false
set_option linter.unusedVariables false
open Go.RowKit
set_option linter.unusedVariables false
attribute [local go_sem] OpUpon
attribute [local go_sem ↓] Go.wp_at_zero Go.wp_at_succ
def grab (s : St) (h : Hd) : St × Bool := swapPlace s h.r (h.t % s.rd) h.seen (leftP h.seen h.t s.rd)
def spoil (s : St) (h : Hd) : St × Bool := swapPlace s h.r (h.t % s.rd) h.seen { h.seen with s := false }
def take17 (s : St) (h : Hd) : St × Hd × Bool := fin true (spoil s h).1 { h with at_ := if (spoil s h).2 then 19 else 15 }
def take18 (s : St) (h : Hd) : St × Hd × Bool := fin true (grab s h).1 { h with at_ := if (grab s h).2 then 19 else 15 }
def t18AV (s : St) (N M0 Z n cap : Nat) (A : Option Addr) (v r t : Int) (seen : Pl) (tr sp : Int) (ag : Bool) (re : Int) (q : St × Bool) : List Sl := [.v (.agg (aS s A n cap)),
 .v r,
 .v t,
 .v (pT N),
 .v s.rd,
 .v (.int .i64 (t % s.rd)),
 .v (.pointer (some ⟨(N + 1), 4, none⟩)),
 .v (.agg (cP seen)),
 .v (.pointer (some ⟨(N + 1), 4, none⟩)),
 .v (.agg (cP seen)),
 .v t,
 .v (pT N),
 .v s.rd,
 .v (.agg #[seen.s, .int .i64 (t + s.rd), .bool false, .int .i64 0]),
 .e fun σ w => ∃ (A5 : Option Addr) (n5 c5 : Nat), σ 14 = .tuple #[.agg (aS q.1 A5 n5 c5), q.2] ∧ RgsW M0 w.heap.size w A5 n5 c5 q.1.rs,
 .e fun σ w => ∃ (A5 : Option Addr) (n5 c5 : Nat), σ 15 = .tuple #[.agg (aS q.1 A5 n5 c5), q.2] ∧ RgsW M0 w.heap.size w A5 n5 c5 q.1.rs,
 .e fun σ w => ∃ (A5 : Option Addr) (n5 c5 : Nat), σ 16 = .agg (aS q.1 A5 n5 c5) ∧ RgsW M0 w.heap.size w A5 n5 c5 q.1.rs,
 .v (.bool q.2),
 .e fun σ w => ∃ (A5 : Option Addr) (n5 c5 : Nat), BoxAt w N (aS q.1 A5 n5 c5) 32 ∧ RgsW M0 w.heap.size w A5 n5 c5 q.1.rs,
 .v (.bool q.2)]
set_option maxRecDepth 100000 in
set_option maxHeartbeats 4000000 in
theorem l7Take_18 (s : St) (A : Option Addr) (n cap lo hi : Nat) (v r t : Int) (seen : Pl) (tr sp : Int) (ag : Bool) (re : Int) (w : World) (hs : RgsW lo hi w A n cap s.rs) (hh : hi ≤ w.heap.size) (hlo : lo ≤ w.heap.size) (hok : stOk s = true) (hrb : ringB s r = true) (ht : 0 ≤ t ∧ t ≤ 1000000) :
  Calls Tryz.prog 51 #[stV s A n cap, hdV ⟨18, v, r, t, seen, tr, sp, ag, re⟩] w (RetSHB lo (take18 s ⟨18, v, r, t, seen, tr, sp, ag, re⟩) w) := by
 have HOK := Lib.hid hok
 have HRB := Lib.hid hrb
 have HLN := Lib.hid hs.1
 have HNT := Lib.hid (stOk_neat hok)
 obtain ⟨z0, z1, z2⟩ := ringB_at HLN.out hrb
 clear hok hrb
 obtain ⟨t0, t1⟩ := ht
 have hrd := stOk_rd HOK.out
 have em0 : 0 ≤ t % s.rd := Int.emod_nonneg _ (by omega)
 have em1 : t % s.rd < s.rd := Int.emod_lt_of_pos _ (by omega)
 unfold stV hdV
 dsimp only
 go_enter Tryz.func51, Tryz.ntmps51
 go_upto_region 36 with fail
 refine wp_abs (fun W => Below w.heap.size w W ∧ BoxAt W w.heap.size (aS s A n cap) 32 ∧ BoxAt W (w.heap.size + 1) (dH 18 v r t seen tr sp ag re) 35 ∧ BoxAt W (w.heap.size + 1 + 1) zS 32 ∧ BoxAt W (w.heap.size + 1 + 1 + 1) zH 35) ⟨(((((Below.refl _ _).alloc (Nat.le_refl _) _).alloc (by simp) _).alloc (by simp; omega) _).alloc (by simp; omega) _), (((BoxAt.new _ _ _).alloc _).alloc _).alloc _, ((BoxAt.new' (by simp)).alloc _).alloc _, (BoxAt.new' (by simp)).alloc _, BoxAt.new' (by simp)⟩ ?_
 rintro W0 ⟨hB, hx, hy, hz, hw_⟩
 have lw0 := hw_.lt
 have hs0 := hs.below hB hh
 have kx := hx.cell
 have ky := hy.cell
 have fy := hy.frozen
 clear kx ky fy hs0
 obtain ⟨q, hq⟩ : ∃ q, swapPlace s r (t % s.rd) seen (leftP seen t s.rd) = q := ⟨_, rfl⟩
 have HCON := Lib.hid (show ∀ W : World, Below w.heap.size w W → Calls Tryz.prog 73 #[stV s A n cap, r, .int .i64 (t % s.rd), .agg (cP seen), .agg #[seen.s, .int .i64 (t + s.rd), .bool false, .int .i64 0]] W (RetSB W.heap.size q W) from fun W hBW => by
  have := sswapPlace_any s A n cap lo hi r (t % s.rd) seen (leftP seen t s.rd) W (hs.below hBW hh) (Nat.le_trans hh hBW.size) (by have := HNT.out.2.1; have := HLN.out; omega) HNT.out.len
  rw [hq] at this
  exact this)
 unfold stV at HCON
 have HQ5 := Lib.hid (show grab s ⟨18, v, r, t, seen, tr, sp, ag, re⟩ = q from hq); clear hq
 obtain ⟨M0, hMe⟩ : ∃ M0, M0 = W0.heap.size := ⟨_, rfl⟩
 have hM0 : M0 ≤ W0.heap.size := by omega
 have hM4 : w.heap.size + 4 ≤ M0 := by omega
 clear hMe
 go_cut [10] (fun u10 W' => Below w.heap.size w W' ∧ BoxAt W' (w.heap.size + 1) (dH 18 v r t seen tr sp ag re) 35 ∧ BoxAt W' (w.heap.size + 1 + 1) zS 32 ∧ BoxAt W' (w.heap.size + 1 + 1 + 1) zH 35 ∧ ∃ (A5 : Option Addr) (n5 c5 : Nat), BoxAt W' w.heap.size (aS q.1 A5 n5 c5) 32 ∧ RgsW M0 W'.heap.size W' A5 n5 c5 q.1.rs ∧ u10 = .bool q.2)
 case first =>
  refine wp_region2v (fun w w' => Below w.heap.size w w') (fun _ _ h => h.size) (fun _ => Below.refl _ _) (fun L W' => Below w.heap.size w W' ∧ BoxAt W' (w.heap.size + 1) (dH 18 v r t seen tr sp ag re) 35 ∧ BoxAt W' (w.heap.size + 1 + 1) zS 32 ∧ BoxAt W' (w.heap.size + 1 + 1 + 1) zH 35 ∧ M0 ≤ W'.heap.size ∧ (∃ x0 x1 x2 x3 x4, BoxAt W' w.heap.size #[x0, x1, x2, x3, x4] 32) ∧ (L 18 = false → BoxAt W' w.heap.size (aS s A n cap) 32)) (t18AV s w.heap.size M0 0 n cap A v r t seen tr sp ag re q) (fun j => [0, 0, 0, 0, 0, 0, 0, 0, 0, 0, 0, 0, 0, 0, 0, 0, 0, 0, 1, 0].getD j 0) [] (by kernel_rfl) (by kernel_rfl) ?_ ?_ ?_
   (.still rfl ?a0 <| .still rfl ?a1 <| .still rfl ?a2 <| .still rfl ?a3 <| .still rfl ?a4 <| .still rfl ?a5 <| .still rfl ?a6 <| .still rfl ?a7 <| .still rfl ?a8 <| .still rfl ?a9 <| .still rfl ?a10 <| .still rfl ?a11 <| .still rfl ?a12 <| .grow rfl ?a13 <| .grow rfl ?a14 <| .still rfl ?a15 <| .still rfl ?a16 <| .still rfl ?a17 <| .store rfl ?a18 <| .still rfl ?a19 <| .nil) ?_ ?_
  · exact ⟨fun _ _ _ h ⟨A5, n5, c5, e, hp⟩ => ⟨A5, n5, c5, (h 14 (List.mem_singleton.2 rfl)).symm.trans e, hp⟩, fun _ _ _ h ⟨A5, n5, c5, e, hp⟩ => ⟨A5, n5, c5, (h 15 (List.mem_singleton.2 rfl)).symm.trans e, hp⟩, fun _ _ _ h ⟨A5, n5, c5, e, hp⟩ => ⟨A5, n5, c5, (h 16 (List.mem_singleton.2 rfl)).symm.trans e, hp⟩, fun _ _ _ _ h => h, trivial⟩
  · exact ⟨fun σ w w' hb ⟨A5, n5, c5, e, hp⟩ => ⟨A5, n5, c5, e, (hp.below hb (Nat.le_refl _)).mono (Nat.le_refl _) hb.size⟩, fun σ w w' hb ⟨A5, n5, c5, e, hp⟩ => ⟨A5, n5, c5, e, (hp.below hb (Nat.le_refl _)).mono (Nat.le_refl _) hb.size⟩, fun σ w w' hb ⟨A5, n5, c5, e, hp⟩ => ⟨A5, n5, c5, e, (hp.below hb (Nat.le_refl _)).mono (Nat.le_refl _) hb.size⟩, fun σ w w' hb ⟨A5, n5, c5, hx, hp⟩ => ⟨A5, n5, c5, hx.below hb hx.lt, (hp.below hb (Nat.le_refl _)).mono (Nat.le_refl _) hb.size⟩, trivial⟩
  · exact ⟨hB.drew, hy, hz, hw_, hM0, ⟨_, _, _, _, _, hx⟩, fun _ => hx⟩
  case a1 | a2 | a3 | a6 | a8 | a10 | a11 | a19 =>
   go_light
   intro L σ W' hcl hL hC hw
   try have e17 := wT hw 17 rfl
   clear hw hcl hL hC
   refine OpGoes.go fun K hK => ?_
   go_simp
   exact hK _ _ ⟨rfl, rfl⟩
  case a7 | a9 =>
   go_light
   intro L σ W' hcl hL hC hw
   try have e6 := wT hw 6 rfl
   try have e8 := wT hw 8 rfl
   have kh := hC.2.1.cell
   clear hw hcl hL hC
   refine OpGoes.go fun K hK => ?_
   go_simp
   exact hK _ _ ⟨rfl, rfl⟩
  case a0 =>
   go_light
   intro L σ W' hcl hL hC hw
   have ks := (hC.2.2.2.2.2.2 (hcl.not (j := 18) (k := 16) (by kernel_rfl) (hcl.not (j := 16) (k := 15) (by kernel_rfl) (hcl.not (j := 15) (k := 14) (by kernel_rfl) (hcl.not (j := 14) (k := 0) (by kernel_rfl) hL))))).cell
   clear hw hcl hL hC
   refine OpGoes.go fun K hK => ?_
   go_simp
   exact hK _ _ ⟨rfl, rfl⟩
  case a4 =>
   go_light
   intro L σ W' hcl hL hC hw
   have e3 := wV hw 3 rfl
   have ks := (hC.2.2.2.2.2.2 (hcl.not (j := 18) (k := 16) (by kernel_rfl) (hcl.not (j := 16) (k := 15) (by kernel_rfl) (hcl.not (j := 15) (k := 14) (by kernel_rfl) (hcl.not (j := 14) (k := 5) (by kernel_rfl) (hcl.not (j := 5) (k := 4) (by kernel_rfl) hL)))))).cell
   clear hw hcl hL hC
   refine OpGoes.go fun K hK => ?_
   go_simp
   exact hK _ _ ⟨rfl, rfl⟩
  case a5 =>
   go_light
   intro L σ W' hcl hL hC hw
   have e2 := wV hw 2 rfl
   have e4 := wV hw 4 rfl
   have nz_ : ¬ s.rd = 0 := by omega
   have rm_ : t.tmod s.rd = t % s.rd := Int.tmod_eq_emod_of_nonneg t0
   have wr_ : IntKind.i64.wrap (t % s.rd) = t % s.rd := by rw [IntKind.wrap_i64]; omega
   clear hw hcl hL hC
   refine OpGoes.go fun K hK => ?_
   go_simp
   exact hK _ _ ⟨rfl, rfl⟩
  case a12 =>
   go_light
   intro L σ W' hcl hL hC hw
   have e11 := wV hw 11 rfl
   have ks := (hC.2.2.2.2.2.2 (hcl.not (j := 18) (k := 16) (by kernel_rfl) (hcl.not (j := 16) (k := 15) (by kernel_rfl) (hcl.not (j := 15) (k := 14) (by kernel_rfl) (hcl.not (j := 14) (k := 13) (by kernel_rfl) (hcl.not (j := 13) (k := 12) (by kernel_rfl) hL)))))).cell
   clear hw hcl hL hC
   refine OpGoes.go fun K hK => ?_
   go_simp
   exact hK _ _ ⟨rfl, rfl⟩
  case a13 =>
   go_light
   intro L σ W' hcl hL hC hw
   have e9 := wV hw 9 rfl
   have e10 := wV hw 10 rfl
   have e12 := wV hw 12 rfl
   clear hw
   have HC := Lib.hid hC
   clear hC
   clear hcl hL
   refine OpGoes.go fun K hK => ?_
   go_simp
   obtain ⟨hB, hy, hz, hw_, hM0, ⟨_, _, _, _, _, hx⟩, hx_o⟩ := HC.out
   refine (sleft_any seen t s.rd _ t0 t1 (by omega) (by omega)).mono ?_
   rintro e w1 ⟨rfl, hb1⟩
   exact ⟨_, rfl, hK _ _ ⟨⟨bstep hB hB.size hb1, hy.below hb1 hy.lt, hz.below hb1 hz.lt, hw_.below hb1 hw_.lt, Nat.le_trans hM0 hb1.size, ⟨_, _, _, _, _, hx.below hb1 hx.lt⟩, fun h => (hx_o (by simpa [upd] using h)).below hb1 (hx_o (by simpa [upd] using h)).lt⟩, rfl, hb1⟩⟩
  case a14 =>
   go_light
   intro L σ W' hcl hL hC hw
   have e0 := wV hw 0 rfl
   have e1 := wV hw 1 rfl
   have e5 := wV hw 5 rfl
   have e7 := wV hw 7 rfl
   have e13 := wV hw 13 rfl
   clear hw
   have HC := Lib.hid hC
   clear hC
   clear hcl hL
   refine OpGoes.go fun K hK => ?_
   go_simp
   obtain ⟨hB, hy, hz, hw_, hM0, ⟨_, _, _, _, _, hx⟩, hx_o⟩ := HC.out
   refine (HCON.out _ hB).mono ?_
   rintro e w1 ⟨A5, n5, c5, rfl, hG5, hb1⟩
   exact ⟨_, rfl, hK _ _ ⟨⟨bstep hB hB.size hb1, hy.below hb1 hy.lt, hz.below hb1 hz.lt, hw_.below hb1 hw_.lt, Nat.le_trans hM0 hb1.size, ⟨_, _, _, _, _, hx.below hb1 hx.lt⟩, fun h => (hx_o (by simpa [upd] using h)).below hb1 (hx_o (by simpa [upd] using h)).lt⟩, ⟨A5, n5, c5, rfl, hG5.mono hM0 (Nat.le_refl _)⟩, hb1⟩⟩
  case a15 =>
   go_light
   intro L σ W' hcl hL hC hw
   obtain ⟨A5, n5, c5, e14, hp14⟩ := wE hw 14 rfl
   clear hw hcl hL hC
   refine OpGoes.go fun K hK => ?_
   go_simp
   exact hK _ _ ⟨rfl, ⟨A5, n5, c5, rfl, hp14⟩⟩
  case a16 =>
   go_light
   intro L σ W' hcl hL hC hw
   obtain ⟨A5, n5, c5, e15, hp15⟩ := wE hw 15 rfl
   clear hw hcl hL hC
   refine OpGoes.go fun K hK => ?_
   go_simp
   exact hK _ _ ⟨rfl, ⟨A5, n5, c5, rfl, hp15⟩⟩
  case a17 =>
   go_light
   intro L σ W' hcl hL hC hw
   obtain ⟨A5, n5, c5, e15, hp15⟩ := wE hw 15 rfl
   clear hw hcl hL hC
   refine OpGoes.go fun K hK => ?_
   go_simp
   exact hK _ _ ⟨rfl, rfl⟩
  case a18 =>
   go_light
   intro L σ W' hcl hL hC hw hne
   obtain ⟨A5, n5, c5, e16, hp16⟩ := wE hw 16 rfl
   clear hw hne
   have HC := Lib.hid hC
   obtain ⟨hB, hy, hz, hw_, hM0, ⟨_, _, _, _, _, hx⟩, hx_o⟩ := hC
   clear hcl hL
   have kc_ := hx.cell
   have kf_ := hx.frozen
   clear hB hy hz hw_ hM0 hx hx_o
   refine OpGoes.go fun K hK => ?_
   go_simp
   obtain ⟨hB, hy, hz, hw_, hM0, ⟨_, _, _, _, _, hx⟩, hx_o⟩ := HC.out
   have hset := sets_all (us := (aS q.1 A5 n5 c5)) hx rfl
   refine hK undef (setCells W' w.heap.size 0 (aS q.1 A5 n5 c5)) ⟨⟨(Below.setCells (by omega) _ 0 hB), (BoxAt.sets_ne _ 0 hy (by omega)), (BoxAt.sets_ne _ 0 hz (by omega)), (BoxAt.sets_ne _ 0 hw_ (by omega)), (size_sts hM0 _ 0), ⟨_, _, _, _, _, hset⟩, fun h => absurd h (by simp [upd])⟩, ⟨A5, n5, c5, hset, ((RgsW.setsT hp16 hx (by decide) (by decide) _ 0).mono (Nat.le_refl _) (Nat.le_of_eq (sets_size _ _ _).symm))⟩, Nat.le_of_eq (sets_size _ _ _).symm, keepV ?_⟩
   exact ⟨fun _ _ ⟨A5_x, n5_x, c5_x, e, hp⟩ => ⟨A5_x, n5_x, c5_x, e, ((RgsW.setsT hp hx (by decide) (by decide) _ 0).mono (Nat.le_refl _) (Nat.le_of_eq (sets_size _ _ _).symm))⟩, fun _ _ ⟨A5_x, n5_x, c5_x, e, hp⟩ => ⟨A5_x, n5_x, c5_x, e, ((RgsW.setsT hp hx (by decide) (by decide) _ 0).mono (Nat.le_refl _) (Nat.le_of_eq (sets_size _ _ _).symm))⟩, fun _ _ ⟨A5_x, n5_x, c5_x, e, hp⟩ => ⟨A5_x, n5_x, c5_x, e, ((RgsW.setsT hp hx (by decide) (by decide) _ 0).mono (Nat.le_refl _) (Nat.le_of_eq (sets_size _ _ _).symm))⟩, fun h => absurd rfl h, trivial⟩
  ·
   intro L L' W' hLL hC
   obtain ⟨hB, hy, hz, hw_, hM0, ⟨_, _, _, _, _, hx⟩, hx_o⟩ := hC
   exact ⟨hB, hy, hz, hw_, hM0, ⟨_, _, _, _, _, hx⟩, fun h => hx_o (hLL _ h)⟩
  ·
   intro σ L W' hall hC hRR
   obtain ⟨hB, hy, hz, hw_, hM0, ⟨_, _, _, _, _, hx⟩, hx_o⟩ := hC
   obtain ⟨A5, n5, c5, s18, hp18⟩ := dE hRR 18 rfl
   have e19 := dV hRR 19 rfl
   clear hRR
   simp only [lexAll]
   go_simp
   go_step
   go_meet
   exact ⟨hB, hy, hz, hw_, A5, n5, c5, s18, hp18, rfl⟩
 case rest =>
  clear hB hx hy hz hw_
  obtain ⟨hB, hy, hz, hw_, A5, n5, c5, hx, hG, rfl⟩ := hcut
  have lw1 := hw_.lt
  have ky := hy.cell
  have fy := hy.frozen
  cases hq2 : q.2
  ·
   have HQ2 := Lib.hid hq2; clear hq2
   go_wp2_with fail
   refine (l7Then_any _ _ _ _).mono ?_
   rintro e w' ⟨rfl, rfl⟩
   dsimp only
   go_upto_region 43 with fail
   have HV := Lib.hid (show take18 s ⟨18, v, r, t, seen, tr, sp, ag, re⟩ = (q.1, (⟨15, v, r, t, seen, tr, sp, ag, re⟩ : Hd), ((⟨15, v, r, t, seen, tr, sp, ag, re⟩ : Hd)).ok) by simp only [take18, HQ5.out, HQ2.out]; rfl)
   refine t7T_wp w q.1 M0 wc.heap.size A5 n5 c5 (⟨15, v, r, t, seen, tr, sp, ag, re⟩ : Hd) (by kernel_rfl) (by omega) ⟨sc hB, hx.sn, by simpa using hy.set 0 (.int .i64 15), hz.sn, hw_.sn, hG.sl, by simp⟩ ?_
   clear ky fy hB hx hy hz hw_ hG
   generalize hq2 : (⟨15, v, r, t, seen, tr, sp, ag, re⟩ : Hd) = h2 at *
   clear hq2
   intro _ _ _ _ _ _ _ W' hB k7 k8 hG _
   replace k7 := k7.cell
   replace k8 := k8.cell
   go_step
   go_wp2
   refine bodyPost_ret (v := .tuple #[stV q.1 A5 n5 c5, hdV h2, .bool (h2.ok)]) (by simp [results, Tryz.results51, go_sem, k7, k8, stV, hdV]) rfl ⟨A5, n5, c5, by rw [HV.out], ?_, hB⟩
   rw [HV.out]
   exact hG.cut.mono (by omega) (Nat.le_refl _)
  ·
   have HQ2 := Lib.hid hq2; clear hq2
   go_wp2_with fail
   refine (l7Then_any _ _ _ _).mono ?_
   rintro e w' ⟨rfl, rfl⟩
   dsimp only
   go_upto_region 43 with fail
   have HV := Lib.hid (show take18 s ⟨18, v, r, t, seen, tr, sp, ag, re⟩ = (q.1, (⟨19, v, r, t, seen, tr, sp, ag, re⟩ : Hd), ((⟨19, v, r, t, seen, tr, sp, ag, re⟩ : Hd)).ok) by simp only [take18, HQ5.out, HQ2.out]; rfl)
   refine t7T_wp w q.1 M0 wc.heap.size A5 n5 c5 (⟨19, v, r, t, seen, tr, sp, ag, re⟩ : Hd) (by kernel_rfl) (by omega) ⟨sc hB, hx.sn, by simpa using hy.set 0 (.int .i64 19), hz.sn, hw_.sn, hG.sl, by simp⟩ ?_
   clear ky fy hB hx hy hz hw_ hG
   generalize hq2 : (⟨19, v, r, t, seen, tr, sp, ag, re⟩ : Hd) = h2 at *
   clear hq2
   intro _ _ _ _ _ _ _ W' hB k7 k8 hG _
   replace k7 := k7.cell
   replace k8 := k8.cell
   go_step
   go_wp2
   refine bodyPost_ret (v := .tuple #[stV q.1 A5 n5 c5, hdV h2, .bool (h2.ok)]) (by simp [results, Tryz.results51, go_sem, k7, k8, stV, hdV]) rfl ⟨A5, n5, c5, by rw [HV.out], ?_, hB⟩
   rw [HV.out]
   exact hG.cut.mono (by omega) (Nat.le_refl _)
def t17AV (s : St) (N M0 Z n cap : Nat) (A : Option Addr) (v r t : Int) (seen : Pl) (tr sp : Int) (ag : Bool) (re : Int) (q : St × Bool) : List Sl := [.v (.agg (aS s A n cap)),
 .v r,
 .v t,
 .v (pT N),
 .v s.rd,
 .v (.int .i64 (t % s.rd)),
 .v (.pointer (some ⟨(N + 1), 4, none⟩)),
 .v (.agg (cP seen)),
 .v (.agg #[.bool false, seen.n, seen.f, seen.v]),
 .e fun σ w => ∃ (A5 : Option Addr) (n5 c5 : Nat), σ 9 = .tuple #[.agg (aS q.1 A5 n5 c5), q.2] ∧ RgsW M0 w.heap.size w A5 n5 c5 q.1.rs,
 .e fun σ w => ∃ (A5 : Option Addr) (n5 c5 : Nat), σ 10 = .tuple #[.agg (aS q.1 A5 n5 c5), q.2] ∧ RgsW M0 w.heap.size w A5 n5 c5 q.1.rs,
 .e fun σ w => ∃ (A5 : Option Addr) (n5 c5 : Nat), σ 11 = .agg (aS q.1 A5 n5 c5) ∧ RgsW M0 w.heap.size w A5 n5 c5 q.1.rs,
 .v (.bool q.2),
 .e fun σ w => ∃ (A5 : Option Addr) (n5 c5 : Nat), BoxAt w N (aS q.1 A5 n5 c5) 32 ∧ RgsW M0 w.heap.size w A5 n5 c5 q.1.rs,
 .v (.bool q.2)]
set_option maxRecDepth 100000 in
set_option maxHeartbeats 4000000 in
theorem l7Take_17 (s : St) (A : Option Addr) (n cap lo hi : Nat) (v r t : Int) (seen : Pl) (tr sp : Int) (ag : Bool) (re : Int) (w : World) (hs : RgsW lo hi w A n cap s.rs) (hh : hi ≤ w.heap.size) (hlo : lo ≤ w.heap.size) (hok : stOk s = true) (hrb : ringB s r = true) (ht : 0 ≤ t ∧ t ≤ 1000000) :
  Calls Tryz.prog 51 #[stV s A n cap, hdV ⟨17, v, r, t, seen, tr, sp, ag, re⟩] w (RetSHB lo (take17 s ⟨17, v, r, t, seen, tr, sp, ag, re⟩) w) := by
 have HOK := Lib.hid hok
 have HRB := Lib.hid hrb
 have HLN := Lib.hid hs.1
 have HNT := Lib.hid (stOk_neat hok)
 obtain ⟨z0, z1, z2⟩ := ringB_at HLN.out hrb
 clear hok hrb
 obtain ⟨t0, t1⟩ := ht
 have hrd := stOk_rd HOK.out
 have em0 : 0 ≤ t % s.rd := Int.emod_nonneg _ (by omega)
 have em1 : t % s.rd < s.rd := Int.emod_lt_of_pos _ (by omega)
 unfold stV hdV
 dsimp only
 go_enter Tryz.func51, Tryz.ntmps51
 go_upto_region 31 with fail
 refine wp_abs (fun W => Below w.heap.size w W ∧ BoxAt W w.heap.size (aS s A n cap) 32 ∧ BoxAt W (w.heap.size + 1) (dH 17 v r t seen tr sp ag re) 35 ∧ BoxAt W (w.heap.size + 1 + 1) zS 32 ∧ BoxAt W (w.heap.size + 1 + 1 + 1) zH 35) ⟨(((((Below.refl _ _).alloc (Nat.le_refl _) _).alloc (by simp) _).alloc (by simp; omega) _).alloc (by simp; omega) _), (((BoxAt.new _ _ _).alloc _).alloc _).alloc _, ((BoxAt.new' (by simp)).alloc _).alloc _, (BoxAt.new' (by simp)).alloc _, BoxAt.new' (by simp)⟩ ?_
 rintro W0 ⟨hB, hx, hy, hz, hw_⟩
 have lw0 := hw_.lt
 have hs0 := hs.below hB hh
 have kx := hx.cell
 have ky := hy.cell
 have fy := hy.frozen
 go_upto_region 33 with fail
 refine wp_abs (fun W => Below w.heap.size w W ∧ BoxAt W w.heap.size (aS s A n cap) 32 ∧ BoxAt W (w.heap.size + 1) (dH 17 v r t seen tr sp ag re) 35 ∧ BoxAt W (w.heap.size + 1 + 1) zS 32 ∧ BoxAt W (w.heap.size + 1 + 1 + 1) zH 35 ∧ BoxAt W W0.heap.size #[.bool false, seen.n, seen.f, seen.v] 33) ?_ ?_
 · exact ⟨hB.alloc hB.size _, hx.alloc _, hy.alloc _, hz.alloc _, hw_.alloc _, BoxAt.new _ _ _⟩
 clear kx ky fy
 generalize W0.heap.size = Z at *
 clear hB hx hy hz hw_ hs0
 rintro W0 ⟨hB, hx, hy, hz, hw_, hZ⟩
 have lZ := hZ.lt
 have lw2 := hw_.lt
 obtain ⟨q, hq⟩ : ∃ q, swapPlace s r (t % s.rd) seen { seen with s := false } = q := ⟨_, rfl⟩
 have HCON := Lib.hid (show ∀ W : World, Below w.heap.size w W → Calls Tryz.prog 73 #[stV s A n cap, r, .int .i64 (t % s.rd), .agg (cP seen), .agg #[.bool false, seen.n, seen.f, seen.v]] W (RetSB W.heap.size q W) from fun W hBW => by
  have := sswapPlace_any s A n cap lo hi r (t % s.rd) seen { seen with s := false } W (hs.below hBW hh) (Nat.le_trans hh hBW.size) (by have := HNT.out.2.1; have := HLN.out; omega) HNT.out.len
  rw [hq] at this
  exact this)
 unfold stV at HCON
 have HQ5 := Lib.hid (show spoil s ⟨17, v, r, t, seen, tr, sp, ag, re⟩ = q from hq); clear hq
 obtain ⟨M0, hMe⟩ : ∃ M0, M0 = W0.heap.size := ⟨_, rfl⟩
 have hM0 : M0 ≤ W0.heap.size := by omega
 have hM4 : w.heap.size + 4 ≤ M0 := by omega
 clear hMe
 go_cut [10] (fun u10 W' => Below w.heap.size w W' ∧ BoxAt W' (w.heap.size + 1) (dH 17 v r t seen tr sp ag re) 35 ∧ BoxAt W' (w.heap.size + 1 + 1) zS 32 ∧ BoxAt W' (w.heap.size + 1 + 1 + 1) zH 35 ∧ ∃ (A5 : Option Addr) (n5 c5 : Nat), BoxAt W' w.heap.size (aS q.1 A5 n5 c5) 32 ∧ RgsW M0 W'.heap.size W' A5 n5 c5 q.1.rs ∧ u10 = .bool q.2)
 case first =>
  refine wp_region2v (fun w w' => Below w.heap.size w w') (fun _ _ h => h.size) (fun _ => Below.refl _ _) (fun L W' => Below w.heap.size w W' ∧ BoxAt W' (w.heap.size + 1) (dH 17 v r t seen tr sp ag re) 35 ∧ BoxAt W' (w.heap.size + 1 + 1) zS 32 ∧ BoxAt W' (w.heap.size + 1 + 1 + 1) zH 35 ∧ M0 ≤ W'.heap.size ∧ BoxAt W' Z #[.bool false, seen.n, seen.f, seen.v] 33 ∧ (∃ x0 x1 x2 x3 x4, BoxAt W' w.heap.size #[x0, x1, x2, x3, x4] 32) ∧ (L 13 = false → BoxAt W' w.heap.size (aS s A n cap) 32)) (t17AV s w.heap.size M0 Z n cap A v r t seen tr sp ag re q) (fun j => [0, 0, 0, 0, 0, 0, 0, 0, 0, 0, 0, 0, 0, 1, 0].getD j 0) [] (by kernel_rfl) (by kernel_rfl) ?_ ?_ ?_
   (.still rfl ?a0 <| .still rfl ?a1 <| .still rfl ?a2 <| .still rfl ?a3 <| .still rfl ?a4 <| .still rfl ?a5 <| .still rfl ?a6 <| .still rfl ?a7 <| .still rfl ?a8 <| .grow rfl ?a9 <| .still rfl ?a10 <| .still rfl ?a11 <| .still rfl ?a12 <| .store rfl ?a13 <| .still rfl ?a14 <| .nil) ?_ ?_
  · exact ⟨fun _ _ _ h ⟨A5, n5, c5, e, hp⟩ => ⟨A5, n5, c5, (h 9 (List.mem_singleton.2 rfl)).symm.trans e, hp⟩, fun _ _ _ h ⟨A5, n5, c5, e, hp⟩ => ⟨A5, n5, c5, (h 10 (List.mem_singleton.2 rfl)).symm.trans e, hp⟩, fun _ _ _ h ⟨A5, n5, c5, e, hp⟩ => ⟨A5, n5, c5, (h 11 (List.mem_singleton.2 rfl)).symm.trans e, hp⟩, fun _ _ _ _ h => h, trivial⟩
  · exact ⟨fun σ w w' hb ⟨A5, n5, c5, e, hp⟩ => ⟨A5, n5, c5, e, (hp.below hb (Nat.le_refl _)).mono (Nat.le_refl _) hb.size⟩, fun σ w w' hb ⟨A5, n5, c5, e, hp⟩ => ⟨A5, n5, c5, e, (hp.below hb (Nat.le_refl _)).mono (Nat.le_refl _) hb.size⟩, fun σ w w' hb ⟨A5, n5, c5, e, hp⟩ => ⟨A5, n5, c5, e, (hp.below hb (Nat.le_refl _)).mono (Nat.le_refl _) hb.size⟩, fun σ w w' hb ⟨A5, n5, c5, hx, hp⟩ => ⟨A5, n5, c5, hx.below hb hx.lt, (hp.below hb (Nat.le_refl _)).mono (Nat.le_refl _) hb.size⟩, trivial⟩
  · exact ⟨hB.drew, hy, hz, hw_, hM0, hZ, ⟨_, _, _, _, _, hx⟩, fun _ => hx⟩
  case a1 | a2 | a3 | a6 | a14 =>
   go_light
   intro L σ W' hcl hL hC hw
   try have e12 := wT hw 12 rfl
   clear hw hcl hL hC
   refine OpGoes.go fun K hK => ?_
   go_simp
   exact hK _ _ ⟨rfl, rfl⟩
  case a7 =>
   go_light
   intro L σ W' hcl hL hC hw
   have e6 := wV hw 6 rfl
   have kh := hC.2.1.cell
   clear hw hcl hL hC
   refine OpGoes.go fun K hK => ?_
   go_simp
   exact hK _ _ ⟨rfl, rfl⟩
  case a8 =>
   go_light
   intro L σ W' hcl hL hC hw
   have kZ := hC.2.2.2.2.2.1.cell
   clear hw hcl hL hC
   refine OpGoes.go fun K hK => ?_
   go_simp
   exact hK _ _ ⟨rfl, rfl⟩
  case a0 =>
   go_light
   intro L σ W' hcl hL hC hw
   have ks := (hC.2.2.2.2.2.2.2 (hcl.not (j := 13) (k := 11) (by kernel_rfl) (hcl.not (j := 11) (k := 10) (by kernel_rfl) (hcl.not (j := 10) (k := 9) (by kernel_rfl) (hcl.not (j := 9) (k := 0) (by kernel_rfl) hL))))).cell
   clear hw hcl hL hC
   refine OpGoes.go fun K hK => ?_
   go_simp
   exact hK _ _ ⟨rfl, rfl⟩
  case a4 =>
   go_light
   intro L σ W' hcl hL hC hw
   have e3 := wV hw 3 rfl
   have ks := (hC.2.2.2.2.2.2.2 (hcl.not (j := 13) (k := 11) (by kernel_rfl) (hcl.not (j := 11) (k := 10) (by kernel_rfl) (hcl.not (j := 10) (k := 9) (by kernel_rfl) (hcl.not (j := 9) (k := 5) (by kernel_rfl) (hcl.not (j := 5) (k := 4) (by kernel_rfl) hL)))))).cell
   clear hw hcl hL hC
   refine OpGoes.go fun K hK => ?_
   go_simp
   exact hK _ _ ⟨rfl, rfl⟩
  case a5 =>
   go_light
   intro L σ W' hcl hL hC hw
   have e2 := wV hw 2 rfl
   have e4 := wV hw 4 rfl
   have nz_ : ¬ s.rd = 0 := by omega
   have rm_ : t.tmod s.rd = t % s.rd := Int.tmod_eq_emod_of_nonneg t0
   have wr_ : IntKind.i64.wrap (t % s.rd) = t % s.rd := by rw [IntKind.wrap_i64]; omega
   clear hw hcl hL hC
   refine OpGoes.go fun K hK => ?_
   go_simp
   exact hK _ _ ⟨rfl, rfl⟩
  case a9 =>
   go_light
   intro L σ W' hcl hL hC hw
   have e0 := wV hw 0 rfl
   have e1 := wV hw 1 rfl
   have e5 := wV hw 5 rfl
   have e7 := wV hw 7 rfl
   have e8 := wV hw 8 rfl
   clear hw
   have HC := Lib.hid hC
   clear hC
   clear hcl hL
   refine OpGoes.go fun K hK => ?_
   go_simp
   obtain ⟨hB, hy, hz, hw_, hM0, hZ, ⟨_, _, _, _, _, hx⟩, hx_o⟩ := HC.out
   refine (HCON.out _ hB).mono ?_
   rintro e w1 ⟨A5, n5, c5, rfl, hG5, hb1⟩
   exact ⟨_, rfl, hK _ _ ⟨⟨bstep hB hB.size hb1, hy.below hb1 hy.lt, hz.below hb1 hz.lt, hw_.below hb1 hw_.lt, Nat.le_trans hM0 hb1.size, hZ.below hb1 hZ.lt, ⟨_, _, _, _, _, hx.below hb1 hx.lt⟩, fun h => (hx_o (by simpa [upd] using h)).below hb1 (hx_o (by simpa [upd] using h)).lt⟩, ⟨A5, n5, c5, rfl, hG5.mono hM0 (Nat.le_refl _)⟩, hb1⟩⟩
  case a10 =>
   go_light
   intro L σ W' hcl hL hC hw
   obtain ⟨A5, n5, c5, e9, hp9⟩ := wE hw 9 rfl
   clear hw hcl hL hC
   refine OpGoes.go fun K hK => ?_
   go_simp
   exact hK _ _ ⟨rfl, ⟨A5, n5, c5, rfl, hp9⟩⟩
  case a11 =>
   go_light
   intro L σ W' hcl hL hC hw
   obtain ⟨A5, n5, c5, e10, hp10⟩ := wE hw 10 rfl
   clear hw hcl hL hC
   refine OpGoes.go fun K hK => ?_
   go_simp
   exact hK _ _ ⟨rfl, ⟨A5, n5, c5, rfl, hp10⟩⟩
  case a12 =>
   go_light
   intro L σ W' hcl hL hC hw
   obtain ⟨A5, n5, c5, e10, hp10⟩ := wE hw 10 rfl
   clear hw hcl hL hC
   refine OpGoes.go fun K hK => ?_
   go_simp
   exact hK _ _ ⟨rfl, rfl⟩
  case a13 =>
   go_light
   intro L σ W' hcl hL hC hw hne
   obtain ⟨A5, n5, c5, e11, hp11⟩ := wE hw 11 rfl
   clear hw hne
   have HC := Lib.hid hC
   obtain ⟨hB, hy, hz, hw_, hM0, hZ, ⟨_, _, _, _, _, hx⟩, hx_o⟩ := hC
   clear hcl hL
   have kc_ := hx.cell
   have kf_ := hx.frozen
   clear hB hy hz hw_ hM0 hZ hx hx_o
   refine OpGoes.go fun K hK => ?_
   go_simp
   obtain ⟨hB, hy, hz, hw_, hM0, hZ, ⟨_, _, _, _, _, hx⟩, hx_o⟩ := HC.out
   have hset := sets_all (us := (aS q.1 A5 n5 c5)) hx rfl
   refine hK undef (setCells W' w.heap.size 0 (aS q.1 A5 n5 c5)) ⟨⟨(Below.setCells (by omega) _ 0 hB), (BoxAt.sets_ne _ 0 hy (by omega)), (BoxAt.sets_ne _ 0 hz (by omega)), (BoxAt.sets_ne _ 0 hw_ (by omega)), (size_sts hM0 _ 0), (BoxAt.sets_ne _ 0 hZ (by omega)), ⟨_, _, _, _, _, hset⟩, fun h => absurd h (by simp [upd])⟩, ⟨A5, n5, c5, hset, ((RgsW.setsT hp11 hx (by decide) (by decide) _ 0).mono (Nat.le_refl _) (Nat.le_of_eq (sets_size _ _ _).symm))⟩, Nat.le_of_eq (sets_size _ _ _).symm, keepV ?_⟩
   exact ⟨fun _ _ ⟨A5_x, n5_x, c5_x, e, hp⟩ => ⟨A5_x, n5_x, c5_x, e, ((RgsW.setsT hp hx (by decide) (by decide) _ 0).mono (Nat.le_refl _) (Nat.le_of_eq (sets_size _ _ _).symm))⟩, fun _ _ ⟨A5_x, n5_x, c5_x, e, hp⟩ => ⟨A5_x, n5_x, c5_x, e, ((RgsW.setsT hp hx (by decide) (by decide) _ 0).mono (Nat.le_refl _) (Nat.le_of_eq (sets_size _ _ _).symm))⟩, fun _ _ ⟨A5_x, n5_x, c5_x, e, hp⟩ => ⟨A5_x, n5_x, c5_x, e, ((RgsW.setsT hp hx (by decide) (by decide) _ 0).mono (Nat.le_refl _) (Nat.le_of_eq (sets_size _ _ _).symm))⟩, fun h => absurd rfl h, trivial⟩
  ·
   intro L L' W' hLL hC
   obtain ⟨hB, hy, hz, hw_, hM0, hZ, ⟨_, _, _, _, _, hx⟩, hx_o⟩ := hC
   exact ⟨hB, hy, hz, hw_, hM0, hZ, ⟨_, _, _, _, _, hx⟩, fun h => hx_o (hLL _ h)⟩
  ·
   intro σ L W' hall hC hRR
   obtain ⟨hB, hy, hz, hw_, hM0, hZ, ⟨_, _, _, _, _, hx⟩, hx_o⟩ := hC
   obtain ⟨A5, n5, c5, s13, hp13⟩ := dE hRR 13 rfl
   have e14 := dV hRR 14 rfl
   clear hRR
   simp only [lexAll]
   go_simp
   go_step
   go_meet
   exact ⟨hB, hy, hz, hw_, A5, n5, c5, s13, hp13, rfl⟩
 case rest =>
  clear hB hx hy hz hw_ hZ
  obtain ⟨hB, hy, hz, hw_, A5, n5, c5, hx, hG, rfl⟩ := hcut
  have lw1 := hw_.lt
  have ky := hy.cell
  have fy := hy.frozen
  cases hq2 : q.2
  ·
   have HQ2 := Lib.hid hq2; clear hq2
   go_wp2_with fail
   refine (l7Then_any _ _ _ _).mono ?_
   rintro e w' ⟨rfl, rfl⟩
   dsimp only
   go_upto_region 43 with fail
   have HV := Lib.hid (show take17 s ⟨17, v, r, t, seen, tr, sp, ag, re⟩ = (q.1, (⟨15, v, r, t, seen, tr, sp, ag, re⟩ : Hd), ((⟨15, v, r, t, seen, tr, sp, ag, re⟩ : Hd)).ok) by simp only [take17, HQ5.out, HQ2.out]; rfl)
   refine t7T_wp w q.1 M0 wc.heap.size A5 n5 c5 (⟨15, v, r, t, seen, tr, sp, ag, re⟩ : Hd) (by kernel_rfl) (by omega) ⟨sc hB, hx.sn, by simpa using hy.set 0 (.int .i64 15), hz.sn, hw_.sn, hG.sl, by simp⟩ ?_
   clear ky fy hB hx hy hz hw_ hG
   generalize hq2 : (⟨15, v, r, t, seen, tr, sp, ag, re⟩ : Hd) = h2 at *
   clear hq2
   intro _ _ _ _ _ _ _ W' hB k7 k8 hG _
   replace k7 := k7.cell
   replace k8 := k8.cell
   go_step
   go_wp2
   refine bodyPost_ret (v := .tuple #[stV q.1 A5 n5 c5, hdV h2, .bool (h2.ok)]) (by simp [results, Tryz.results51, go_sem, k7, k8, stV, hdV]) rfl ⟨A5, n5, c5, by rw [HV.out], ?_, hB⟩
   rw [HV.out]
   exact hG.cut.mono (by omega) (Nat.le_refl _)
  ·
   have HQ2 := Lib.hid hq2; clear hq2
   go_wp2_with fail
   refine (l7Then_any _ _ _ _).mono ?_
   rintro e w' ⟨rfl, rfl⟩
   dsimp only
   go_upto_region 43 with fail
   have HV := Lib.hid (show take17 s ⟨17, v, r, t, seen, tr, sp, ag, re⟩ = (q.1, (⟨19, v, r, t, seen, tr, sp, ag, re⟩ : Hd), ((⟨19, v, r, t, seen, tr, sp, ag, re⟩ : Hd)).ok) by simp only [take17, HQ5.out, HQ2.out]; rfl)
   refine t7T_wp w q.1 M0 wc.heap.size A5 n5 c5 (⟨19, v, r, t, seen, tr, sp, ag, re⟩ : Hd) (by kernel_rfl) (by omega) ⟨sc hB, hx.sn, by simpa using hy.set 0 (.int .i64 19), hz.sn, hw_.sn, hG.sl, by simp⟩ ?_
   clear ky fy hB hx hy hz hw_ hG
   generalize hq2 : (⟨19, v, r, t, seen, tr, sp, ag, re⟩ : Hd) = h2 at *
   clear hq2
   intro _ _ _ _ _ _ _ W' hB k7 k8 hG _
   replace k7 := k7.cell
   replace k8 := k8.cell
   go_step
   go_wp2
   refine bodyPost_ret (v := .tuple #[stV q.1 A5 n5 c5, hdV h2, .bool (h2.ok)]) (by simp [results, Tryz.results51, go_sem, k7, k8, stV, hdV]) rfl ⟨A5, n5, c5, by rw [HV.out], ?_, hB⟩
   rw [HV.out]
   exact hG.cut.mono (by omega) (Nat.le_refl _)
end Go.Proofs.YthpckpnlohfcbaaGreatDoor
namespace Go.Proofs.YthpckpnlohfcbaaGreatDoor
set_option linter.unusedSimpArgs false
set_option linter.unusedVariables false
open Go.RowKit
set_option linter.unusedVariables false
attribute [local go_sem] OpUpon
attribute [local go_sem ↓] Go.wp_at_zero Go.wp_at_succ
def take16 (s : St) (h : Hd) : St × Hd × Bool := if (grab s h).2 then ((grab s h).1, { h.rest 4 with v := h.seen.v }, true) else fin true (grab s h).1 { h with at_ := 15 }
def t16AV (s : St) (N M0 Z n cap : Nat) (A : Option Addr) (v r t : Int) (seen : Pl) (tr sp : Int) (ag : Bool) (re : Int) (q : St × Bool) : List Sl := [.v (.agg (aS s A n cap)),
 .v r,
 .v t,
 .v (pT N),
 .v s.rd,
 .v (.int .i64 (t % s.rd)),
 .v (.pointer (some ⟨(N + 1), 4, none⟩)),
 .v (.agg (cP seen)),
 .v (.pointer (some ⟨(N + 1), 4, none⟩)),
 .v (.agg (cP seen)),
 .v t,
 .v (pT N),
 .v s.rd,
 .v (.agg #[seen.s, .int .i64 (t + s.rd), .bool false, .int .i64 0]),
 .e fun σ w => ∃ (A5 : Option Addr) (n5 c5 : Nat), σ 14 = .tuple #[.agg (aS q.1 A5 n5 c5), q.2] ∧ RgsW M0 w.heap.size w A5 n5 c5 q.1.rs,
 .e fun σ w => ∃ (A5 : Option Addr) (n5 c5 : Nat), σ 15 = .tuple #[.agg (aS q.1 A5 n5 c5), q.2] ∧ RgsW M0 w.heap.size w A5 n5 c5 q.1.rs,
 .e fun σ w => ∃ (A5 : Option Addr) (n5 c5 : Nat), σ 16 = .agg (aS q.1 A5 n5 c5) ∧ RgsW M0 w.heap.size w A5 n5 c5 q.1.rs,
 .v (.bool q.2),
 .e fun σ w => ∃ (A5 : Option Addr) (n5 c5 : Nat), BoxAt w N (aS q.1 A5 n5 c5) 32 ∧ RgsW M0 w.heap.size w A5 n5 c5 q.1.rs,
 .v (.bool q.2)]
set_option maxRecDepth 100000 in
set_option maxHeartbeats 4000000 in
theorem l7Take_16 (s : St) (A : Option Addr) (n cap lo hi : Nat) (v r t : Int) (seen : Pl) (tr sp : Int) (ag : Bool) (re : Int) (w : World) (hs : RgsW lo hi w A n cap s.rs) (hh : hi ≤ w.heap.size) (hlo : lo ≤ w.heap.size) (hok : stOk s = true) (hrb : ringB s r = true) (ht : 0 ≤ t ∧ t ≤ 1000000) :
  Calls Tryz.prog 51 #[stV s A n cap, hdV ⟨16, v, r, t, seen, tr, sp, ag, re⟩] w (RetSHB lo (take16 s ⟨16, v, r, t, seen, tr, sp, ag, re⟩) w) := by
 have HOK := Lib.hid hok
 have HRB := Lib.hid hrb
 have HLN := Lib.hid hs.1
 have HNT := Lib.hid (stOk_neat hok)
 obtain ⟨z0, z1, z2⟩ := ringB_at HLN.out hrb
 clear hok hrb
 obtain ⟨t0, t1⟩ := ht
 have hrd := stOk_rd HOK.out
 have em0 : 0 ≤ t % s.rd := Int.emod_nonneg _ (by omega)
 have em1 : t % s.rd < s.rd := Int.emod_lt_of_pos _ (by omega)
 unfold stV hdV
 dsimp only
 go_enter Tryz.func51, Tryz.ntmps51
 go_upto_region 24 with fail
 refine wp_abs (fun W => Below w.heap.size w W ∧ BoxAt W w.heap.size (aS s A n cap) 32 ∧ BoxAt W (w.heap.size + 1) (dH 16 v r t seen tr sp ag re) 35 ∧ BoxAt W (w.heap.size + 1 + 1) zS 32 ∧ BoxAt W (w.heap.size + 1 + 1 + 1) zH 35) ⟨(((((Below.refl _ _).alloc (Nat.le_refl _) _).alloc (by simp) _).alloc (by simp; omega) _).alloc (by simp; omega) _), (((BoxAt.new _ _ _).alloc _).alloc _).alloc _, ((BoxAt.new' (by simp)).alloc _).alloc _, (BoxAt.new' (by simp)).alloc _, BoxAt.new' (by simp)⟩ ?_
 rintro W0 ⟨hB, hx, hy, hz, hw_⟩
 have lw0 := hw_.lt
 have hs0 := hs.below hB hh
 have kx := hx.cell
 have ky := hy.cell
 have fy := hy.frozen
 clear kx ky fy hs0
 obtain ⟨q, hq⟩ : ∃ q, swapPlace s r (t % s.rd) seen (leftP seen t s.rd) = q := ⟨_, rfl⟩
 have HCON := Lib.hid (show ∀ W : World, Below w.heap.size w W → Calls Tryz.prog 73 #[stV s A n cap, r, .int .i64 (t % s.rd), .agg (cP seen), .agg #[seen.s, .int .i64 (t + s.rd), .bool false, .int .i64 0]] W (RetSB W.heap.size q W) from fun W hBW => by
  have := sswapPlace_any s A n cap lo hi r (t % s.rd) seen (leftP seen t s.rd) W (hs.below hBW hh) (Nat.le_trans hh hBW.size) (by have := HNT.out.2.1; have := HLN.out; omega) HNT.out.len
  rw [hq] at this
  exact this)
 unfold stV at HCON
 have HQ5 := Lib.hid (show grab s ⟨16, v, r, t, seen, tr, sp, ag, re⟩ = q from hq); clear hq
 obtain ⟨M0, hMe⟩ : ∃ M0, M0 = W0.heap.size := ⟨_, rfl⟩
 have hM0 : M0 ≤ W0.heap.size := by omega
 have hM4 : w.heap.size + 4 ≤ M0 := by omega
 clear hMe
 go_cut [10] (fun u10 W' => Below w.heap.size w W' ∧ BoxAt W' (w.heap.size + 1) (dH 16 v r t seen tr sp ag re) 35 ∧ BoxAt W' (w.heap.size + 1 + 1) zS 32 ∧ BoxAt W' (w.heap.size + 1 + 1 + 1) zH 35 ∧ ∃ (A5 : Option Addr) (n5 c5 : Nat), BoxAt W' w.heap.size (aS q.1 A5 n5 c5) 32 ∧ RgsW M0 W'.heap.size W' A5 n5 c5 q.1.rs ∧ u10 = .bool q.2)
 case first =>
  refine wp_region2v (fun w w' => Below w.heap.size w w') (fun _ _ h => h.size) (fun _ => Below.refl _ _) (fun L W' => Below w.heap.size w W' ∧ BoxAt W' (w.heap.size + 1) (dH 16 v r t seen tr sp ag re) 35 ∧ BoxAt W' (w.heap.size + 1 + 1) zS 32 ∧ BoxAt W' (w.heap.size + 1 + 1 + 1) zH 35 ∧ M0 ≤ W'.heap.size ∧ (∃ x0 x1 x2 x3 x4, BoxAt W' w.heap.size #[x0, x1, x2, x3, x4] 32) ∧ (L 18 = false → BoxAt W' w.heap.size (aS s A n cap) 32)) (t16AV s w.heap.size M0 0 n cap A v r t seen tr sp ag re q) (fun j => [0, 0, 0, 0, 0, 0, 0, 0, 0, 0, 0, 0, 0, 0, 0, 0, 0, 0, 1, 0].getD j 0) [] (by kernel_rfl) (by kernel_rfl) ?_ ?_ ?_
   (.still rfl ?a0 <| .still rfl ?a1 <| .still rfl ?a2 <| .still rfl ?a3 <| .still rfl ?a4 <| .still rfl ?a5 <| .still rfl ?a6 <| .still rfl ?a7 <| .still rfl ?a8 <| .still rfl ?a9 <| .still rfl ?a10 <| .still rfl ?a11 <| .still rfl ?a12 <| .grow rfl ?a13 <| .grow rfl ?a14 <| .still rfl ?a15 <| .still rfl ?a16 <| .still rfl ?a17 <| .store rfl ?a18 <| .still rfl ?a19 <| .nil) ?_ ?_
  · exact ⟨fun _ _ _ h ⟨A5, n5, c5, e, hp⟩ => ⟨A5, n5, c5, (h 14 (List.mem_singleton.2 rfl)).symm.trans e, hp⟩, fun _ _ _ h ⟨A5, n5, c5, e, hp⟩ => ⟨A5, n5, c5, (h 15 (List.mem_singleton.2 rfl)).symm.trans e, hp⟩, fun _ _ _ h ⟨A5, n5, c5, e, hp⟩ => ⟨A5, n5, c5, (h 16 (List.mem_singleton.2 rfl)).symm.trans e, hp⟩, fun _ _ _ _ h => h, trivial⟩
  · exact ⟨fun σ w w' hb ⟨A5, n5, c5, e, hp⟩ => ⟨A5, n5, c5, e, (hp.below hb (Nat.le_refl _)).mono (Nat.le_refl _) hb.size⟩, fun σ w w' hb ⟨A5, n5, c5, e, hp⟩ => ⟨A5, n5, c5, e, (hp.below hb (Nat.le_refl _)).mono (Nat.le_refl _) hb.size⟩, fun σ w w' hb ⟨A5, n5, c5, e, hp⟩ => ⟨A5, n5, c5, e, (hp.below hb (Nat.le_refl _)).mono (Nat.le_refl _) hb.size⟩, fun σ w w' hb ⟨A5, n5, c5, hx, hp⟩ => ⟨A5, n5, c5, hx.below hb hx.lt, (hp.below hb (Nat.le_refl _)).mono (Nat.le_refl _) hb.size⟩, trivial⟩
  · exact ⟨hB.drew, hy, hz, hw_, hM0, ⟨_, _, _, _, _, hx⟩, fun _ => hx⟩
  case a1 | a2 | a3 | a6 | a8 | a10 | a11 | a19 =>
   go_light
   intro L σ W' hcl hL hC hw
   try have e17 := wT hw 17 rfl
   clear hw hcl hL hC
   refine OpGoes.go fun K hK => ?_
   go_simp
   exact hK _ _ ⟨rfl, rfl⟩
  case a7 | a9 =>
   go_light
   intro L σ W' hcl hL hC hw
   try have e6 := wT hw 6 rfl
   try have e8 := wT hw 8 rfl
   have kh := hC.2.1.cell
   clear hw hcl hL hC
   refine OpGoes.go fun K hK => ?_
   go_simp
   exact hK _ _ ⟨rfl, rfl⟩
  case a0 =>
   go_light
   intro L σ W' hcl hL hC hw
   have ks := (hC.2.2.2.2.2.2 (hcl.not (j := 18) (k := 16) (by kernel_rfl) (hcl.not (j := 16) (k := 15) (by kernel_rfl) (hcl.not (j := 15) (k := 14) (by kernel_rfl) (hcl.not (j := 14) (k := 0) (by kernel_rfl) hL))))).cell
   clear hw hcl hL hC
   refine OpGoes.go fun K hK => ?_
   go_simp
   exact hK _ _ ⟨rfl, rfl⟩
  case a4 =>
   go_light
   intro L σ W' hcl hL hC hw
   have e3 := wV hw 3 rfl
   have ks := (hC.2.2.2.2.2.2 (hcl.not (j := 18) (k := 16) (by kernel_rfl) (hcl.not (j := 16) (k := 15) (by kernel_rfl) (hcl.not (j := 15) (k := 14) (by kernel_rfl) (hcl.not (j := 14) (k := 5) (by kernel_rfl) (hcl.not (j := 5) (k := 4) (by kernel_rfl) hL)))))).cell
   clear hw hcl hL hC
   refine OpGoes.go fun K hK => ?_
   go_simp
   exact hK _ _ ⟨rfl, rfl⟩
  case a5 =>
   go_light
   intro L σ W' hcl hL hC hw
   have e2 := wV hw 2 rfl
   have e4 := wV hw 4 rfl
   have nz_ : ¬ s.rd = 0 := by omega
   have rm_ : t.tmod s.rd = t % s.rd := Int.tmod_eq_emod_of_nonneg t0
   have wr_ : IntKind.i64.wrap (t % s.rd) = t % s.rd := by rw [IntKind.wrap_i64]; omega
   clear hw hcl hL hC
   refine OpGoes.go fun K hK => ?_
   go_simp
   exact hK _ _ ⟨rfl, rfl⟩
  case a12 =>
   go_light
   intro L σ W' hcl hL hC hw
   have e11 := wV hw 11 rfl
   have ks := (hC.2.2.2.2.2.2 (hcl.not (j := 18) (k := 16) (by kernel_rfl) (hcl.not (j := 16) (k := 15) (by kernel_rfl) (hcl.not (j := 15) (k := 14) (by kernel_rfl) (hcl.not (j := 14) (k := 13) (by kernel_rfl) (hcl.not (j := 13) (k := 12) (by kernel_rfl) hL)))))).cell
   clear hw hcl hL hC
   refine OpGoes.go fun K hK => ?_
   go_simp
   exact hK _ _ ⟨rfl, rfl⟩
  case a13 =>
   go_light
   intro L σ W' hcl hL hC hw
   have e9 := wV hw 9 rfl
   have e10 := wV hw 10 rfl
   have e12 := wV hw 12 rfl
   clear hw
   have HC := Lib.hid hC
   clear hC
   clear hcl hL
   refine OpGoes.go fun K hK => ?_
   go_simp
   obtain ⟨hB, hy, hz, hw_, hM0, ⟨_, _, _, _, _, hx⟩, hx_o⟩ := HC.out
   refine (sleft_any seen t s.rd _ t0 t1 (by omega) (by omega)).mono ?_
   rintro e w1 ⟨rfl, hb1⟩
   exact ⟨_, rfl, hK _ _ ⟨⟨bstep hB hB.size hb1, hy.below hb1 hy.lt, hz.below hb1 hz.lt, hw_.below hb1 hw_.lt, Nat.le_trans hM0 hb1.size, ⟨_, _, _, _, _, hx.below hb1 hx.lt⟩, fun h => (hx_o (by simpa [upd] using h)).below hb1 (hx_o (by simpa [upd] using h)).lt⟩, rfl, hb1⟩⟩
  case a14 =>
   go_light
   intro L σ W' hcl hL hC hw
   have e0 := wV hw 0 rfl
   have e1 := wV hw 1 rfl
   have e5 := wV hw 5 rfl
   have e7 := wV hw 7 rfl
   have e13 := wV hw 13 rfl
   clear hw
   have HC := Lib.hid hC
   clear hC
   clear hcl hL
   refine OpGoes.go fun K hK => ?_
   go_simp
   obtain ⟨hB, hy, hz, hw_, hM0, ⟨_, _, _, _, _, hx⟩, hx_o⟩ := HC.out
   refine (HCON.out _ hB).mono ?_
   rintro e w1 ⟨A5, n5, c5, rfl, hG5, hb1⟩
   exact ⟨_, rfl, hK _ _ ⟨⟨bstep hB hB.size hb1, hy.below hb1 hy.lt, hz.below hb1 hz.lt, hw_.below hb1 hw_.lt, Nat.le_trans hM0 hb1.size, ⟨_, _, _, _, _, hx.below hb1 hx.lt⟩, fun h => (hx_o (by simpa [upd] using h)).below hb1 (hx_o (by simpa [upd] using h)).lt⟩, ⟨A5, n5, c5, rfl, hG5.mono hM0 (Nat.le_refl _)⟩, hb1⟩⟩
  case a15 =>
   go_light
   intro L σ W' hcl hL hC hw
   obtain ⟨A5, n5, c5, e14, hp14⟩ := wE hw 14 rfl
   clear hw hcl hL hC
   refine OpGoes.go fun K hK => ?_
   go_simp
   exact hK _ _ ⟨rfl, ⟨A5, n5, c5, rfl, hp14⟩⟩
  case a16 =>
   go_light
   intro L σ W' hcl hL hC hw
   obtain ⟨A5, n5, c5, e15, hp15⟩ := wE hw 15 rfl
   clear hw hcl hL hC
   refine OpGoes.go fun K hK => ?_
   go_simp
   exact hK _ _ ⟨rfl, ⟨A5, n5, c5, rfl, hp15⟩⟩
  case a17 =>
   go_light
   intro L σ W' hcl hL hC hw
   obtain ⟨A5, n5, c5, e15, hp15⟩ := wE hw 15 rfl
   clear hw hcl hL hC
   refine OpGoes.go fun K hK => ?_
   go_simp
   exact hK _ _ ⟨rfl, rfl⟩
  case a18 =>
   go_light
   intro L σ W' hcl hL hC hw hne
   obtain ⟨A5, n5, c5, e16, hp16⟩ := wE hw 16 rfl
   clear hw hne
   have HC := Lib.hid hC
   obtain ⟨hB, hy, hz, hw_, hM0, ⟨_, _, _, _, _, hx⟩, hx_o⟩ := hC
   clear hcl hL
   have kc_ := hx.cell
   have kf_ := hx.frozen
   clear hB hy hz hw_ hM0 hx hx_o
   refine OpGoes.go fun K hK => ?_
   go_simp
   obtain ⟨hB, hy, hz, hw_, hM0, ⟨_, _, _, _, _, hx⟩, hx_o⟩ := HC.out
   have hset := sets_all (us := (aS q.1 A5 n5 c5)) hx rfl
   refine hK undef (setCells W' w.heap.size 0 (aS q.1 A5 n5 c5)) ⟨⟨(Below.setCells (by omega) _ 0 hB), (BoxAt.sets_ne _ 0 hy (by omega)), (BoxAt.sets_ne _ 0 hz (by omega)), (BoxAt.sets_ne _ 0 hw_ (by omega)), (size_sts hM0 _ 0), ⟨_, _, _, _, _, hset⟩, fun h => absurd h (by simp [upd])⟩, ⟨A5, n5, c5, hset, ((RgsW.setsT hp16 hx (by decide) (by decide) _ 0).mono (Nat.le_refl _) (Nat.le_of_eq (sets_size _ _ _).symm))⟩, Nat.le_of_eq (sets_size _ _ _).symm, keepV ?_⟩
   exact ⟨fun _ _ ⟨A5_x, n5_x, c5_x, e, hp⟩ => ⟨A5_x, n5_x, c5_x, e, ((RgsW.setsT hp hx (by decide) (by decide) _ 0).mono (Nat.le_refl _) (Nat.le_of_eq (sets_size _ _ _).symm))⟩, fun _ _ ⟨A5_x, n5_x, c5_x, e, hp⟩ => ⟨A5_x, n5_x, c5_x, e, ((RgsW.setsT hp hx (by decide) (by decide) _ 0).mono (Nat.le_refl _) (Nat.le_of_eq (sets_size _ _ _).symm))⟩, fun _ _ ⟨A5_x, n5_x, c5_x, e, hp⟩ => ⟨A5_x, n5_x, c5_x, e, ((RgsW.setsT hp hx (by decide) (by decide) _ 0).mono (Nat.le_refl _) (Nat.le_of_eq (sets_size _ _ _).symm))⟩, fun h => absurd rfl h, trivial⟩
  ·
   intro L L' W' hLL hC
   obtain ⟨hB, hy, hz, hw_, hM0, ⟨_, _, _, _, _, hx⟩, hx_o⟩ := hC
   exact ⟨hB, hy, hz, hw_, hM0, ⟨_, _, _, _, _, hx⟩, fun h => hx_o (hLL _ h)⟩
  ·
   intro σ L W' hall hC hRR
   obtain ⟨hB, hy, hz, hw_, hM0, ⟨_, _, _, _, _, hx⟩, hx_o⟩ := hC
   obtain ⟨A5, n5, c5, s18, hp18⟩ := dE hRR 18 rfl
   have e19 := dV hRR 19 rfl
   clear hRR
   simp only [lexAll]
   go_simp
   go_step
   go_meet
   exact ⟨hB, hy, hz, hw_, A5, n5, c5, s18, hp18, rfl⟩
 case rest =>
  clear hB hx hy hz hw_
  obtain ⟨hB, hy, hz, hw_, A5, n5, c5, hx, hG, rfl⟩ := hcut
  have lw1 := hw_.lt
  have ky := hy.cell
  have fy := hy.frozen
  cases hq2 : q.2
  ·
   have HQ2 := Lib.hid hq2; clear hq2
   go_upto_region 43 with fail
   have HV := Lib.hid (show take16 s ⟨16, v, r, t, seen, tr, sp, ag, re⟩ = (q.1, (⟨15, v, r, t, seen, tr, sp, ag, re⟩ : Hd), ((⟨15, v, r, t, seen, tr, sp, ag, re⟩ : Hd)).ok) by simp only [take16, HQ5.out, HQ2.out]; rfl)
   refine t7T_wp w q.1 M0 wc.heap.size A5 n5 c5 (⟨15, v, r, t, seen, tr, sp, ag, re⟩ : Hd) (by kernel_rfl) (by omega) ⟨sc hB, hx.sn, by simpa using hy.set 0 (.int .i64 15), hz.sn, hw_.sn, hG.sl, by simp⟩ ?_
   clear ky fy hB hx hy hz hw_ hG
   generalize hq2 : (⟨15, v, r, t, seen, tr, sp, ag, re⟩ : Hd) = h2 at *
   clear hq2
   intro _ _ _ _ _ _ _ W' hB k7 k8 hG _
   replace k7 := k7.cell
   replace k8 := k8.cell
   go_step
   go_wp2
   refine bodyPost_ret (v := .tuple #[stV q.1 A5 n5 c5, hdV h2, .bool (h2.ok)]) (by simp [results, Tryz.results51, go_sem, k7, k8, stV, hdV]) rfl ⟨A5, n5, c5, by rw [HV.out], ?_, hB⟩
   rw [HV.out]
   exact hG.cut.mono (by omega) (Nat.le_refl _)
  ·
   have HQ2 := Lib.hid hq2; clear hq2
   go_wp2_with fail
   clear ky fy
   refine (l6Rest_any (⟨16, v, r, t, seen, tr, sp, ag, re⟩ : Hd) 4 _).mono ?_
   rintro e w1 ⟨rfl, hb1⟩
   replace hx := hx.below hb1 hx.lt
   replace hy := hy.below hb1 hy.lt
   replace hz := hz.below hb1 hz.lt
   replace hw_ := hw_.below hb1 hw_.lt
   have h1 := hb1.size
   replace hG := (hG.below hb1 (Nat.le_refl _)).mono (Nat.le_refl _) h1
   replace hB := bstep hB hB.size hb1
   clear hb1
   unfold hdV Hd.rest Hd.zero
   dsimp only
   have ky := hy.cell
   go_upto_region 27 with fail
   have lY : w.heap.size + 4 ≤ w1.heap.size := by omega
   refine wp_abs (fun W => Below w.heap.size w W ∧ BoxAt W w.heap.size (aS q.1 A5 n5 c5) 32 ∧ BoxAt W (w.heap.size + 1) (dH 16 v r t seen tr sp ag re) 35 ∧ BoxAt W (w.heap.size + 1 + 1) zS 32 ∧ BoxAt W (w.heap.size + 1 + 1 + 1) zH 35 ∧ BoxAt W w1.heap.size (eH 0 0 0 0 false 0 false 0 0 sp false 4) 35 ∧ RgsW M0 w1.heap.size W A5 n5 c5 q.1.rs ∧ w1.heap.size ≤ W.heap.size) ?_ ?_
   · exact ⟨hB.alloc hB.size _, hx.alloc _, hy.alloc _, hz.alloc _, hw_.alloc _, BoxAt.new _ _ _, hG.al (Nat.le_refl _) _, by simp⟩
   clear ky hB hx hy hz hw_ hG
   generalize w1.heap.size = Y at *
   rintro W2 ⟨hB, hx, hy, hz, hw_, hY, hG, hS⟩
   have ky := hy.cell
   have kY := hY.cell
   have fY := hY.frozen
   go_upto_region 28 with fail
   have HV := Lib.hid (show take16 s ⟨16, v, r, t, seen, tr, sp, ag, re⟩ = (q.1, (⟨0, seen.v, 0, 0, ⟨false, 0, false, 0⟩, 0, sp, false, 4⟩ : Hd), true) by simp only [take16, HQ5.out, HQ2.out]; rfl)
   refine ret4b w true q.1 M0 Y A5 n5 c5 (⟨0, seen.v, 0, 0, ⟨false, 0, false, 0⟩, 0, sp, false, 4⟩ : Hd) w.heap.size Y (by kernel_rfl) (by kernel_rfl) (by kernel_rfl) (by kernel_rfl) (by omega) (by omega) ⟨sc hB, hx.sn, by simpa using hY.set 1 (.int .i64 seen.v), hz.sn, hw_.sn, hG.sr, by simpa using hS⟩ ?k0 ?k1 ?k2 ?k3 ?k4 ?hQ
   case k0 | k1 | k2 | k3 =>
    intros
    rename_i k
    have kc_ := k.cell
    have kf_ := k.frozen
    refine OpGoes.go fun K hK => ?_
    go_simp
    first | exact hK _ _ ⟨rfl, rfl⟩ | exact hK _ _ rfl
   case k4 =>
    intros
    refine OpGoes.go fun K hK => ?_
    go_simp
    exact hK _ _ ⟨rfl, rfl⟩
   case hQ =>
    clear ky kY fY hB hx hy hz hw_ hY hG hS
    generalize hq2 : (⟨0, seen.v, 0, 0, ⟨false, 0, false, 0⟩, 0, sp, false, 4⟩ : Hd) = h2 at *
    clear hq2
    intro σ W' e_ hB k7 k8 hG _
    replace k7 := k7.cell
    replace k8 := k8.cell
    simp only [lexAll]
    go_simp
    go_step
    go_wp2
    refine bodyPost_ret (v := .tuple #[stV q.1 A5 n5 c5, hdV h2, .bool true]) (by simp [results, Tryz.results51, go_sem, k7, k8, stV, hdV, Hd.rest, Hd.zero]) rfl ⟨A5, n5, c5, by rw [HV.out], ?_, hB⟩
    rw [HV.out]
    exact hG.cut.mono (by omega) (Nat.le_refl _)
end Go.Proofs.YthpckpnlohfcbaaGreatDoor
