/-
 The walk of a step of one who puts, of the model: the parcel is put.
-/
import Derived.Test.YthpckpnlohfcbaaGreatDoorPut6
import Derived.Test.YthpckpnlohfcbaaGreatDoorTail
namespace Go.Proofs.YthpckpnlohfcbaaGreatDoor
set_option linter.unusedSimpArgs false
set_option linter.unusedVariables false
open Go.RowKit
set_option linter.unusedVariables false
attribute [local go_sem] OpUpon
attribute [local go_sem ↓] Go.wp_at_zero Go.wp_at_succ
theorem zmake0 {p : Prop} (h : p := by
 intros
 rename_i k
 have kc_ := k.cell
 have kf_ := k.frozen
 refine OpGoes.go fun K hK => ?_
 go_simp
 first | exact hK _ _ ⟨rfl, rfl⟩ | exact hK _ _ rfl) : p := h -- e92ca8c3
theorem zmake1 {p : Prop} (h : p := by
 clear hq2
 intro σ W' e_ hB k7 k8 hG _
 replace k7 := k7.cell
 replace k8 := k8.cell
 simp only [lexAll]
 go_simp
 go_step
 go_wp2
 refine bodyPost_ret (v := .tuple #[stV q.1 A5 n5 c5, hdV h2, .bool true]) (by simp [results, Tryz.results76, go_sem, k7, k8, stV, hdV, Hd.rest, Hd.zero]) rfl ⟨A5, n5, c5, by rw [HV.out], ?_, hB⟩
 rw [HV.out]
 exact hG.cut.mono (by omega) (Nat.le_refl _)) : p := h -- 453a602e
theorem zmake2 {p : Prop} (h : p := by
 clear hw hcl hL hC
 refine OpGoes.go fun K hK => ?_
 go_simp
 exact hK _ _ ⟨rfl, rfl⟩) : p := h -- ee92c020

def put7 (s : St) (h : Hd) : St × Hd × Bool :=
 if (swapPlace s h.r (h.t % s.rd) h.seen ⟨true, h.t, true, h.v⟩).2 then ((swapPlace s h.r (h.t % s.rd) h.seen ⟨true, h.t, true, h.v⟩).1, h.rest 1, true) else fin true (swapPlace s h.r (h.t % s.rd) h.seen ⟨true, h.t, true, h.v⟩).1 { h with at_ := 8 }
def p7AV (s : St) (N M0 n cap : Nat) (A : Option Addr) (v r t : Int) (seen : Pl) (tr sp : Int) (ag : Bool) (re : Int) (q : St × Bool) : List Sl := [.v (.agg (aS s A n cap)),
 .v r,
 .v t,
 .v (pT N),
 .v s.rd,
 .v (.int .i64 (t % s.rd)),
 .v (.pointer (some ⟨(N + 1), 4, none⟩)),
 .v (.agg (cP seen)),
 .v t,
 .v (.pointer (some ⟨(N + 1), 1, none⟩)),
 .v v,
 .v (.agg #[.bool true, t, .bool true, v]),
 .e fun σ w => ∃ (A5 : Option Addr) (n5 c5 : Nat), σ 12 = .tuple #[.agg (aS q.1 A5 n5 c5), q.2] ∧ RgsW M0 w.heap.size w A5 n5 c5 q.1.rs,
 .e fun σ w => ∃ (A5 : Option Addr) (n5 c5 : Nat), σ 13 = .tuple #[.agg (aS q.1 A5 n5 c5), q.2] ∧ RgsW M0 w.heap.size w A5 n5 c5 q.1.rs,
 .e fun σ w => ∃ (A5 : Option Addr) (n5 c5 : Nat), σ 14 = .agg (aS q.1 A5 n5 c5) ∧ RgsW M0 w.heap.size w A5 n5 c5 q.1.rs,
 .v (.bool q.2),
 .e fun σ w => ∃ g16, σ 16 = pT g16 ∧ M0 ≤ g16 ∧ ∃ x0 x1 x2 x3 x4, BoxAt w g16 #[x0, x1, x2, x3, x4] 32,
 .e fun σ w => ∃ (g16 : Nat) (A5 : Option Addr) (n5 c5 : Nat), σ 16 = pT g16 ∧ M0 ≤ g16 ∧ BoxAt w g16 (aS q.1 A5 n5 c5) 32 ∧ RgsW M0 w.heap.size w A5 n5 c5 q.1.rs,
 .v (.bool q.2)]
set_option maxRecDepth 100000 in
set_option maxHeartbeats 4000000 in
theorem l6Put_7 (s : St) (A : Option Addr) (n cap lo hi : Nat) (v r t : Int) (seen : Pl) (tr sp : Int) (ag : Bool) (re : Int) (w : World) (hs : RgsW lo hi w A n cap s.rs) (hh : hi ≤ w.heap.size) (hlo : lo ≤ w.heap.size) (hok : stOk s = true) (hrb : ringB s r = true) (ht : 0 ≤ t ∧ t ≤ 1000000) :
  Calls Tryz.prog 50 #[stV s A n cap, hdV ⟨7, v, r, t, seen, tr, sp, ag, re⟩] w (RetSHB lo (put7 s ⟨7, v, r, t, seen, tr, sp, ag, re⟩) w) := by
 have HOK := Lib.hid hok
 have HRB := Lib.hid hrb
 have HLN := Lib.hid hs.1
 have HNT := Lib.hid (stOk_neat hok)
 obtain ⟨z0, z1, z2⟩ := ringB_at HLN.out hrb
 clear hok hrb
 obtain ⟨t0, t1⟩ := ht
 have hrd := stOk_rd HOK.out
 have hem : 0 ≤ t % s.rd ∧ t % s.rd < s.rd := ⟨Int.emod_nonneg _ (by omega), Int.emod_lt_of_pos _ (by omega)⟩
 obtain ⟨em0, em1⟩ := hem
 unfold stV hdV
 dsimp only
 go_enter Tryz.func50, Tryz.ntmps50
 go_upto_region 37 with fail
 refine wp_abs (fun W => Below w.heap.size w W ∧ BoxAt W w.heap.size (aS s A n cap) 32 ∧ BoxAt W (w.heap.size + 1) (dH 7 v r t seen tr sp ag re) 35 ∧ BoxAt W (w.heap.size + 1 + 1) zS 32 ∧ BoxAt W (w.heap.size + 1 + 1 + 1) zH 35) ⟨(((((Below.refl _ _).alloc (Nat.le_refl _) _).alloc (by simp) _).alloc (by simp; omega) _).alloc (by simp; omega) _), (((BoxAt.new _ _ _).alloc _).alloc _).alloc _, ((BoxAt.new' (by simp)).alloc _).alloc _, (BoxAt.new' (by simp)).alloc _, BoxAt.new' (by simp)⟩ ?_
 rintro W0 ⟨hB, hx, hy, hz, hw_⟩
 have lw0 := hw_.lt
 have hs0 := hs.below hB hh
 have kx := hx.cell
 have ky := hy.cell
 have fy := hy.frozen
 clear kx ky fy
 obtain ⟨q, hq⟩ : ∃ q, swapPlace s r (t % s.rd) seen ⟨true, t, true, v⟩ = q := ⟨_, rfl⟩
 have HCON := Lib.hid (show ∀ W : World, Below w.heap.size w W → Calls Tryz.prog 73 #[stV s A n cap, r, .int .i64 (t % s.rd), .agg (cP seen), .agg #[.bool true, t, .bool true, v]] W (RetSB W.heap.size q W) from fun W hBW => by
  have := sswapPlace_any s A n cap lo hi r (t % s.rd) seen ⟨true, t, true, v⟩ W (hs.below hBW hh) (Nat.le_trans hh hBW.size) (by have := HNT.out.2.1; have := HLN.out; omega) HNT.out.len
  rw [hq] at this
  exact this)
 unfold stV at HCON
 have HQ5 := Lib.hid hq; clear hq
 obtain ⟨M0, hMe⟩ : ∃ M0, M0 = W0.heap.size := ⟨_, rfl⟩
 have hM0 : M0 ≤ W0.heap.size := by omega
 have hM4 : w.heap.size + 4 ≤ M0 := by omega
 clear hMe hs0
 go_cut [12, 13] (fun u12 u13 W' => Below w.heap.size w W' ∧ BoxAt W' w.heap.size (aS s A n cap) 32 ∧ BoxAt W' (w.heap.size + 1) (dH 7 v r t seen tr sp ag re) 35 ∧ BoxAt W' (w.heap.size + 1 + 1) zS 32 ∧ BoxAt W' (w.heap.size + 1 + 1 + 1) zH 35 ∧ ∃ (X : Nat) (A5 : Option Addr) (n5 c5 : Nat), M0 ≤ X ∧ BoxAt W' X (aS q.1 A5 n5 c5) 32 ∧ RgsW M0 W'.heap.size W' A5 n5 c5 q.1.rs ∧ u12 = pT X ∧ u13 = .bool q.2)
 case first =>
  refine wp_region2v (fun w w' => Below w.heap.size w w') (fun _ _ h => h.size) (fun _ => Below.refl _ _) (fun L W' => Below w.heap.size w W' ∧ BoxAt W' w.heap.size (aS s A n cap) 32 ∧ BoxAt W' (w.heap.size + 1) (dH 7 v r t seen tr sp ag re) 35 ∧ BoxAt W' (w.heap.size + 1 + 1) zS 32 ∧ BoxAt W' (w.heap.size + 1 + 1 + 1) zH 35 ∧ M0 ≤ W'.heap.size) (p7AV s w.heap.size M0 n cap A v r t seen tr sp ag re q) (fun j => [0, 0, 0, 0, 0, 0, 0, 0, 0, 0, 0, 0, 0, 0, 0, 0, 2, 1, 0].getD j 0) [(17, 16)] (by kernel_rfl) (by kernel_rfl) ?_ ?_ ?_
   (.still rfl ?a0 <| .still rfl ?a1 <| .still rfl ?a2 <| .still rfl ?a3 <| .still rfl ?a4 <| .still rfl ?a5 <| .still rfl ?a6 <| .still rfl ?a7 <| .still rfl ?a8 <| .still rfl ?a9 <| .still rfl ?a10 <| .still rfl ?a11 <| .grow rfl ?a12 <| .still rfl ?a13 <| .still rfl ?a14 <| .still rfl ?a15 <| .make rfl ?a16 <| .store rfl ?a17 <| .still rfl ?a18 <| .nil) ?_ ?_
  · exact ⟨fun _ _ _ h ⟨A5, n5, c5, e, hp⟩ => ⟨A5, n5, c5, (h 12 (List.mem_singleton.2 rfl)).symm.trans e, hp⟩, fun _ _ _ h ⟨A5, n5, c5, e, hp⟩ => ⟨A5, n5, c5, (h 13 (List.mem_singleton.2 rfl)).symm.trans e, hp⟩, fun _ _ _ h ⟨A5, n5, c5, e, hp⟩ => ⟨A5, n5, c5, (h 14 (List.mem_singleton.2 rfl)).symm.trans e, hp⟩, fun _ _ _ h ⟨g, e, hp⟩ => ⟨g, (h 16 (List.mem_singleton.2 rfl)).symm.trans e, hp⟩, fun _ _ _ h ⟨g, A5, n5, c5, e, hp⟩ => ⟨g, A5, n5, c5, (h 16 (List.mem_singleton.2 rfl)).symm.trans e, hp⟩, trivial⟩
  · exact ⟨fun σ w w' hb ⟨A5, n5, c5, e, hp⟩ => ⟨A5, n5, c5, e, (hp.below hb (Nat.le_refl _)).mono (Nat.le_refl _) hb.size⟩, fun σ w w' hb ⟨A5, n5, c5, e, hp⟩ => ⟨A5, n5, c5, e, (hp.below hb (Nat.le_refl _)).mono (Nat.le_refl _) hb.size⟩, fun σ w w' hb ⟨A5, n5, c5, e, hp⟩ => ⟨A5, n5, c5, e, (hp.below hb (Nat.le_refl _)).mono (Nat.le_refl _) hb.size⟩, fun σ w w' hb ⟨g, e, hg, x0, x1, x2, x3, x4, hx⟩ => ⟨g, e, hg, x0, x1, x2, x3, x4, hx.below hb hx.lt⟩, fun σ w w' hb ⟨g, A5, n5, c5, e, hg, hx, hp⟩ => ⟨g, A5, n5, c5, e, hg, hx.below hb hx.lt, (hp.below hb (Nat.le_refl _)).mono (Nat.le_refl _) hb.size⟩, trivial⟩
  · exact ⟨hB.drew, hx, hy, hz, hw_, hM0⟩
  case a0 | a4 =>
   go_light
   intro L σ W' hcl hL hC hw
   try have e3 := wT hw 3 rfl
   have ks := hC.2.1.cell
   exact zmake2
  case a1 | a2 | a3 | a6 | a8 | a9 | a11 | a18 =>
   go_light
   intro L σ W' hcl hL hC hw
   try have e8 := wT hw 8 rfl
   try have e10 := wT hw 10 rfl
   try have e15 := wT hw 15 rfl
   exact zmake2
  case a7 | a10 =>
   go_light
   intro L σ W' hcl hL hC hw
   try have e6 := wT hw 6 rfl
   try have e9 := wT hw 9 rfl
   have kh := hC.2.2.1.cell
   exact zmake2
  case a5 =>
   go_light
   intro L σ W' hcl hL hC hw
   have e2 := wV hw 2 rfl
   have e4 := wV hw 4 rfl
   have nz_ : ¬ s.rd = 0 := by omega
   have rm_ : t.tmod s.rd = t % s.rd := Int.tmod_eq_emod_of_nonneg t0
   have wr_ : IntKind.i64.wrap (t % s.rd) = t % s.rd := by rw [IntKind.wrap_i64]; omega
   exact zmake2
  case a12 =>
   go_light
   intro L σ W' hcl hL hC hw
   have e0 := wV hw 0 rfl
   have e1 := wV hw 1 rfl
   have e5 := wV hw 5 rfl
   have e7 := wV hw 7 rfl
   have e11 := wV hw 11 rfl
   clear hw
   have HC := Lib.hid hC
   clear hC
   clear hcl hL
   refine OpGoes.go fun K hK => ?_
   go_simp
   obtain ⟨hB, hx, hy, hz, hw_, hM0⟩ := HC.out
   refine (HCON.out _ hB).mono ?_
   rintro e w1 ⟨A5, n5, c5, rfl, hG5, hb1⟩
   exact ⟨_, rfl, hK _ _ ⟨⟨bstep hB hB.size hb1, hx.below hb1 hx.lt, hy.below hb1 hy.lt, hz.below hb1 hz.lt, hw_.below hb1 hw_.lt, Nat.le_trans hM0 hb1.size⟩, ⟨A5, n5, c5, rfl, hG5.mono hM0 (Nat.le_refl _)⟩, hb1⟩⟩
  case a13 =>
   go_light
   intro L σ W' hcl hL hC hw
   obtain ⟨A5, n5, c5, e12, hp12⟩ := wE hw 12 rfl
   clear hw hcl hL hC
   refine OpGoes.go fun K hK => ?_
   go_simp
   exact hK _ _ ⟨rfl, ⟨A5, n5, c5, rfl, hp12⟩⟩
  case a14 =>
   go_light
   intro L σ W' hcl hL hC hw
   obtain ⟨A5, n5, c5, e13, hp13⟩ := wE hw 13 rfl
   clear hw hcl hL hC
   refine OpGoes.go fun K hK => ?_
   go_simp
   exact hK _ _ ⟨rfl, ⟨A5, n5, c5, rfl, hp13⟩⟩
  case a15 =>
   go_light
   intro L σ W' hcl hL hC hw
   obtain ⟨A5, n5, c5, e13, hp13⟩ := wE hw 13 rfl
   exact zmake2
  case a16 =>
   go_light
   intro L σ W' hcl hL hC hw
   clear hw
   have HC := Lib.hid hC
   clear hC
   clear hcl hL
   refine OpGoes.go fun K hK => ?_
   go_simp
   obtain ⟨hB, hx, hy, hz, hw_, hM0⟩ := HC.out
   have hb1 : Below W'.heap.size W' (W'.alloc (.cells zS 32)) := (Below.refl _ _).alloc (Nat.le_refl _) _
   exact hK _ _ ⟨⟨bstep hB hB.size hb1, hx.below hb1 hx.lt, hy.below hb1 hy.lt, hz.below hb1 hz.lt, hw_.below hb1 hw_.lt, Nat.le_trans hM0 hb1.size⟩, ⟨_, rfl, hM0, _, _, _, _, _, BoxAt.new _ _ _⟩, hb1, rfl, by simp⟩
  case a17 =>
   go_light
   intro L σ W' hcl hL hC hw hne
   obtain ⟨A5, n5, c5, e14, hp14⟩ := wE hw 14 rfl
   obtain ⟨g16, e16, hg16, x0, x1, x2, x3, x4, hbox16⟩ := wE hw 16 rfl
   clear hw hne
   have HC := Lib.hid hC
   clear hC
   clear hcl hL
   have kc_ := hbox16.cell
   have kf_ := hbox16.frozen
   refine OpGoes.go fun K hK => ?_
   go_simp
   obtain ⟨hB, hx, hy, hz, hw_, hM0⟩ := HC.out
   have hset := sets_all (us := (aS q.1 A5 n5 c5)) hbox16 rfl
   refine hK undef (setCells W' g16 0 (aS q.1 A5 n5 c5)) ⟨⟨(Below.setCells (by omega) _ 0 hB), (BoxAt.sets_ne _ 0 hx (by omega)), (BoxAt.sets_ne _ 0 hy (by omega)), (BoxAt.sets_ne _ 0 hz (by omega)), (BoxAt.sets_ne _ 0 hw_ (by omega)), (size_sts hM0 _ 0)⟩, ⟨g16, A5, n5, c5, e16, hg16, hset, ((RgsW.setsT hp14 hbox16 (by decide) (by decide) _ 0).mono (Nat.le_refl _) (Nat.le_of_eq (sets_size _ _ _).symm))⟩, Nat.le_of_eq (sets_size _ _ _).symm, keepV ?_⟩
   exact ⟨fun _ _ ⟨A5_x, n5_x, c5_x, e, hp⟩ => ⟨A5_x, n5_x, c5_x, e, ((RgsW.setsT hp hbox16 (by decide) (by decide) _ 0).mono (Nat.le_refl _) (Nat.le_of_eq (sets_size _ _ _).symm))⟩, fun _ _ ⟨A5_x, n5_x, c5_x, e, hp⟩ => ⟨A5_x, n5_x, c5_x, e, ((RgsW.setsT hp hbox16 (by decide) (by decide) _ 0).mono (Nat.le_refl _) (Nat.le_of_eq (sets_size _ _ _).symm))⟩, fun _ _ ⟨A5_x, n5_x, c5_x, e, hp⟩ => ⟨A5_x, n5_x, c5_x, e, ((RgsW.setsT hp hbox16 (by decide) (by decide) _ 0).mono (Nat.le_refl _) (Nat.le_of_eq (sets_size _ _ _).symm))⟩, fun _ _ _ => ⟨g16, e16, hg16, _, _, _, _, _, hset⟩, fun h => absurd rfl h, trivial⟩
  ·
   intro L L' W' hLL hC
   obtain ⟨hB, hx, hy, hz, hw_, hM0⟩ := hC
   exact ⟨hB, hx, hy, hz, hw_, hM0⟩
  ·
   intro σ L W' hall hC hRR
   obtain ⟨hB, hx, hy, hz, hw_, hM0⟩ := hC
   obtain ⟨g16, A5, n5, c5, e16, hg17, s17, hp17⟩ := dE hRR 17 rfl
   have e18 := dV hRR 18 rfl
   clear hRR
   simp only [lexAll]
   go_simp
   go_step
   go_meet
   exact ⟨hB, hx, hy, hz, hw_, g16, A5, n5, c5, hg17, s17, hp17, rfl, rfl⟩
 case rest =>
  clear hB hx hy hz hw_
  obtain ⟨hB, hx, hy, hz, hw_, X, A5, n5, c5, hXM, hX, hG, rfl, rfl⟩ := hcut
  have lX := hX.lt
  have lw1 := hw_.lt
  have kx := hx.cell
  have fx := hx.frozen
  have kX := hX.cell
  cases hq2 : q.2
  ·
   have HQ2 := Lib.hid hq2
   clear hq2
   have ky := hy.cell
   have fy := hy.frozen
   go_upto_region 50 with fail
   have HV := Lib.hid (show put7 s ⟨7, v, r, t, seen, tr, sp, ag, re⟩ = (q.1, (⟨8, v, r, t, seen, tr, sp, ag, re⟩ : Hd), ((⟨8, v, r, t, seen, tr, sp, ag, re⟩ : Hd)).ok) by simp only [put7, HQ5.out, HQ2.out]; rfl)
   refine p6T_wp w q.1 M0 wc.heap.size A5 n5 c5 (⟨8, v, r, t, seen, tr, sp, ag, re⟩ : Hd) (by kernel_rfl) (by omega) ⟨(sc ((sc (sc (sc (sc (sc hB))))))), ((sets_all (us := (aS q.1 A5 n5 c5)) hx rfl).sn), by simpa using (((((((hy.sn).sn).sn).sn).sn)).set 0 (.int .i64 8)), (((((((hz.sn).sn).sn).sn).sn)).sn), (((((((hw_.sn).sn).sn).sn).sn)).sn), (((((((hG.sl).sl).sl).sl).sl)).sl), by simp⟩ ?_
   clear kx fx kX hB hx hy hz hw_ hG hX
   generalize hq2 : (⟨8, v, r, t, seen, tr, sp, ag, re⟩ : Hd) = h2 at *
   clear hq2
   intro _ _ _ _ _ _ _ W' hB k7 k8 hG _
   replace k7 := k7.cell
   replace k8 := k8.cell
   go_step
   go_wp2
   refine bodyPost_ret (v := .tuple #[stV q.1 A5 n5 c5, hdV h2, .bool (h2.ok)]) (by simp [results, Tryz.results50, go_sem, k7, k8, stV, hdV]) rfl ⟨A5, n5, c5, by rw [HV.out], ?_, hB⟩
   rw [HV.out]
   exact hG.cut.mono (by omega) (Nat.le_refl _)
  ·
   have HQ2 := Lib.hid hq2
   clear hq2
   go_upto_region 40 with fail
   have HV := Lib.hid (show put7 s ⟨7, v, r, t, seen, tr, sp, ag, re⟩ = (q.1, ((⟨7, v, r, t, seen, tr, sp, ag, re⟩ : Hd)).rest 1, true) by simp only [put7, HQ5.out, HQ2.out, if_true])
   refine ret5b w true 1 q.1 M0 wc.heap.size A5 n5 c5 (⟨7, v, r, t, seen, tr, sp, ag, re⟩ : Hd) w.heap.size (w.heap.size + 1) (by kernel_rfl) (by kernel_rfl) (by kernel_rfl) (by kernel_rfl) (by kernel_rfl) (by omega) (by omega) ⟨((sc (sc (sc (sc (sc hB)))))), (sets_all (us := (aS q.1 A5 n5 c5)) hx rfl), by simpa using ((((((hy.sn).sn).sn).sn).sn)), ((((((hz.sn).sn).sn).sn).sn)), ((((((hw_.sn).sn).sn).sn).sn)), ((((((hG.sl).sl).sl).sl).sl)), by simp⟩ ?k0 ?k1 ?k2 ?k3 ?k4 ?k5 ?hQ
   case k0 | k1 | k3 | k4 =>
    exact zmake0
   case k5 =>
    intros
    refine OpGoes.go fun K hK => ?_
    go_simp
    exact hK _ _ ⟨rfl, rfl⟩
   case k2 =>
    intros
    refine OpGoes.go fun K hK => ?_
    go_simp
    refine (l6Rest_any (⟨7, v, r, t, seen, tr, sp, ag, re⟩ : Hd) 1 _).mono ?_
    rintro e w1 ⟨rfl, hb1⟩
    exact ⟨_, rfl, hK _ _ ⟨rfl, hb1⟩⟩
   case hQ =>
    clear kx fx kX hB hx hy hz hw_ hG hX
    generalize hq2 : (⟨7, v, r, t, seen, tr, sp, ag, re⟩ : Hd) = h2 at *
    clear hq2
    intro σ W' e_ hB k7 k8 hG _
    replace k7 := k7.cell
    replace k8 := k8.cell
    simp only [lexAll]
    go_simp
    go_step
    go_wp2
    refine bodyPost_ret (v := .tuple #[stV q.1 A5 n5 c5, hdV (h2.rest 1), .bool true]) (by simp [results, Tryz.results50, go_sem, k7, k8, stV, hdV, Hd.rest, Hd.zero]) rfl ⟨A5, n5, c5, by rw [HV.out], ?_, hB⟩
    rw [HV.out]
    exact hG.cut.mono (by omega) (Nat.le_refl _)
end Go.Proofs.YthpckpnlohfcbaaGreatDoor
namespace Go.Proofs.YthpckpnlohfcbaaGreatDoor
set_option linter.unusedSimpArgs false
set_option linter.unusedVariables false
open Go.RowKit
set_option linter.unusedVariables false
attribute [local go_sem] OpUpon
attribute [local go_sem ↓] Go.wp_at_zero Go.wp_at_succ
def make10 (s : St) (h : Hd) : St × Hd × Bool :=
 if 0 ≤ h.sp then (if ringB s h.sp then (s.turn h.sp fun _ => Rg.seed s.rd.toNat h.v, { h with at_ := 11 }, true) else (s, { h with at_ := 11 }, false))
 else if (addRing s h.v).2 < 0 then (s, h.rest 2, true) else ((addRing s h.v).1, { h with at_ := 11, sp := (addRing s h.v).2 }, true)
def make11 (s : St) (h : Hd) : St × Hd × Bool := ((linkR s h.r h.sp).1, (if (linkR s h.r h.sp).2 then { h with at_ := 12 } else { h with at_ := 1, tr := 0 }), true)
def make12 (s : St) (h : Hd) : St × Hd × Bool := ((swing s true h.r h.sp).1, { h.rest 1 with sp := -1 }, true)
set_option maxRecDepth 100000 in
set_option maxHeartbeats 4000000 in
theorem l6Make_12 (s : St) (A : Option Addr) (n cap lo hi : Nat) (v r t : Int) (seen : Pl) (tr sp : Int) (ag : Bool) (re : Int) (w : World) (hs : RgsW lo hi w A n cap s.rs) (hh : hi ≤ w.heap.size) (hlo : lo ≤ w.heap.size) (hok : stOk s = true) :
  Calls Tryz.prog 76 #[stV s A n cap, hdV ⟨12, v, r, t, seen, tr, sp, ag, re⟩] w (RetSHB lo (make12 s ⟨12, v, r, t, seen, tr, sp, ag, re⟩) w) := by
 have HOK := Lib.hid hok
 have HLN := Lib.hid hs.1
 have HNT := Lib.hid (stOk_neat hok)
 clear hok
 unfold stV hdV
 dsimp only
 go_enter Tryz.func76, Tryz.ntmps76
 go_upto_region 22 with fail
 refine wp_abs (fun W => Below w.heap.size w W ∧ BoxAt W w.heap.size (aS s A n cap) 32 ∧ BoxAt W (w.heap.size + 1) (dH 12 v r t seen tr sp ag re) 35 ∧ BoxAt W (w.heap.size + 1 + 1) zS 32 ∧ BoxAt W (w.heap.size + 1 + 1 + 1) zH 35) ⟨(((((Below.refl _ _).alloc (Nat.le_refl _) _).alloc (by simp) _).alloc (by simp; omega) _).alloc (by simp; omega) _), (((BoxAt.new _ _ _).alloc _).alloc _).alloc _, ((BoxAt.new' (by simp)).alloc _).alloc _, (BoxAt.new' (by simp)).alloc _, BoxAt.new' (by simp)⟩ ?_
 rintro W0 ⟨hB, hx, hy, hz, hw_⟩
 have lw0 := hw_.lt
 have hs0 := hs.below hB hh
 have kx := hx.cell
 have ky := hy.cell
 have fy := hy.frozen
 go_wp2_with fail
 clear kx ky fy
 refine (sswing_any s A n cap lo hi true r sp _ hs0 (Nat.le_trans hh hB.size) (by have := HNT.out.2.1; have := HLN.out; omega) HNT.out.len).mono ?_
 rintro e w1 ⟨A5, n5, c5, rfl, hG5, hb5⟩
 replace hx := hx.below hb5 hx.lt
 replace hy := hy.below hb5 hy.lt
 replace hz := hz.below hb5 hz.lt
 replace hw_ := hw_.below hb5 hw_.lt
 have h5 := hb5.size
 replace hB := bstep hB hB.size hb5
 clear hb5
 generalize hq5 : swing s true r sp = q at *
 have HQ5 := Lib.hid hq5; clear hq5
 unfold stV
 go_upto_region 23 with fail
 refine wp_abs (fun W' => Below w.heap.size w W' ∧ BoxAt W' w.heap.size (aS s A n cap) 32 ∧ BoxAt W' (w.heap.size + 1) (dH 12 v r t seen tr sp ag re) 35 ∧ BoxAt W' (w.heap.size + 1 + 1) zS 32 ∧ BoxAt W' (w.heap.size + 1 + 1 + 1) zH 35 ∧ BoxAt W' w1.heap.size (aS q.1 A5 n5 c5) 32 ∧ RgsW W0.heap.size w1.heap.size W' A5 n5 c5 q.1.rs) ⟨hB.alloc hB.size _, hx.alloc _, hy.alloc _, hz.alloc _, hw_.alloc _, BoxAt.new _ _ _, hG5.al (Nat.le_refl _) _⟩ ?_
 have h54 : w.heap.size + 4 ≤ W0.heap.size := by omega
 generalize w1.heap.size = X at *
 generalize W0.heap.size = P5 at *
 clear hB hx hy hz hw_ hG5
 rintro W2 ⟨hB, hx, hy, hz, hw_, hX, hG5⟩
 have lX := hX.lt
 have ky := hy.cell
 have fy := hy.frozen
 have kX := hX.cell
 go_upto_region 24 with fail
 have HV := Lib.hid (show make12 s ⟨12, v, r, t, seen, tr, sp, ag, re⟩ = (q.1, ((⟨12, v, r, t, seen, tr, (-1), ag, re⟩ : Hd)).rest 1, true) by simp only [make12, HQ5.out]; rfl)
 refine ret5b w true 1 q.1 P5 X A5 n5 c5 (⟨12, v, r, t, seen, tr, (-1), ag, re⟩ : Hd) X (w.heap.size + 1) (by kernel_rfl) (by kernel_rfl) (by kernel_rfl) (by kernel_rfl) (by kernel_rfl) (by omega) (by omega) ⟨(sc hB), (hX.sn), by simpa using (hy.set 9 (.int .i64 (-1))), (hz.sn), (hw_.sn), (hG5.sl), by simp; omega⟩ ?k0 ?k1 ?k2 ?k3 ?k4 ?k5 ?hQ
 case k0 | k1 | k3 | k4 =>
  exact zmake0
 case k5 =>
  intros
  refine OpGoes.go fun K hK => ?_
  go_simp
  exact hK _ _ ⟨rfl, rfl⟩
 case k2 =>
  intros
  refine OpGoes.go fun K hK => ?_
  go_simp
  refine (l6Rest_any (⟨12, v, r, t, seen, tr, (-1), ag, re⟩ : Hd) 1 _).mono ?_
  rintro e w1 ⟨rfl, hb1⟩
  exact ⟨_, rfl, hK _ _ ⟨rfl, hb1⟩⟩
 case hQ =>
  clear ky fy kX hB hx hy hz hw_ hG5 hX
  generalize hq2 : (⟨12, v, r, t, seen, tr, (-1), ag, re⟩ : Hd) = h2 at *
  clear hq2
  intro σ W' e_ hB k7 k8 hG _
  replace k7 := k7.cell
  replace k8 := k8.cell
  simp only [lexAll]
  go_simp
  go_step
  go_wp2
  refine bodyPost_ret (v := .tuple #[stV q.1 A5 n5 c5, hdV (h2.rest 1), .bool true]) (by simp [results, Tryz.results76, go_sem, k7, k8, stV, hdV, Hd.rest, Hd.zero]) rfl ⟨A5, n5, c5, by rw [HV.out], ?_, hB⟩
  rw [HV.out]
  exact hG.cut.mono (by omega) (Nat.le_refl _)
set_option maxRecDepth 100000 in
set_option maxHeartbeats 4000000 in
theorem l6Make_11 (s : St) (A : Option Addr) (n cap lo hi : Nat) (v r t : Int) (seen : Pl) (tr sp : Int) (ag : Bool) (re : Int) (w : World) (hs : RgsW lo hi w A n cap s.rs) (hh : hi ≤ w.heap.size) (hlo : lo ≤ w.heap.size) (hok : stOk s = true) :
  Calls Tryz.prog 76 #[stV s A n cap, hdV ⟨11, v, r, t, seen, tr, sp, ag, re⟩] w (RetSHB lo (make11 s ⟨11, v, r, t, seen, tr, sp, ag, re⟩) w) := by
 have HOK := Lib.hid hok
 have HLN := Lib.hid hs.1
 have HNT := Lib.hid (stOk_neat hok)
 clear hok
 unfold stV hdV
 dsimp only
 go_enter Tryz.func76, Tryz.ntmps76
 go_upto_region 16 with fail
 refine wp_abs (fun W => Below w.heap.size w W ∧ BoxAt W w.heap.size (aS s A n cap) 32 ∧ BoxAt W (w.heap.size + 1) (dH 11 v r t seen tr sp ag re) 35 ∧ BoxAt W (w.heap.size + 1 + 1) zS 32 ∧ BoxAt W (w.heap.size + 1 + 1 + 1) zH 35) ⟨(((((Below.refl _ _).alloc (Nat.le_refl _) _).alloc (by simp) _).alloc (by simp; omega) _).alloc (by simp; omega) _), (((BoxAt.new _ _ _).alloc _).alloc _).alloc _, ((BoxAt.new' (by simp)).alloc _).alloc _, (BoxAt.new' (by simp)).alloc _, BoxAt.new' (by simp)⟩ ?_
 rintro W0 ⟨hB, hx, hy, hz, hw_⟩
 have lw0 := hw_.lt
 have hs0 := hs.below hB hh
 have kx := hx.cell
 have ky := hy.cell
 have fy := hy.frozen
 go_wp2_with fail
 clear kx ky fy
 refine (slink_any s A n cap lo hi r sp _ hs0 (Nat.le_trans hh hB.size) (by have := HNT.out.2.1; have := HLN.out; omega) HNT.out.len).mono ?_
 rintro e w1 ⟨A5, n5, c5, rfl, hG5, hb5⟩
 replace hx := hx.below hb5 hx.lt
 replace hy := hy.below hb5 hy.lt
 replace hz := hz.below hb5 hz.lt
 replace hw_ := hw_.below hb5 hw_.lt
 have h5 := hb5.size
 replace hB := bstep hB hB.size hb5
 clear hb5
 generalize hq5 : linkR s r sp = q at *
 have HQ5 := Lib.hid hq5; clear hq5
 unfold stV
 go_upto_region 17 with fail
 refine wp_abs (fun W' => Below w.heap.size w W' ∧ BoxAt W' w.heap.size (aS s A n cap) 32 ∧ BoxAt W' (w.heap.size + 1) (dH 11 v r t seen tr sp ag re) 35 ∧ BoxAt W' (w.heap.size + 1 + 1) zS 32 ∧ BoxAt W' (w.heap.size + 1 + 1 + 1) zH 35 ∧ BoxAt W' w1.heap.size (aS q.1 A5 n5 c5) 32 ∧ RgsW W0.heap.size w1.heap.size W' A5 n5 c5 q.1.rs) ⟨hB.alloc hB.size _, hx.alloc _, hy.alloc _, hz.alloc _, hw_.alloc _, BoxAt.new _ _ _, hG5.al (Nat.le_refl _) _⟩ ?_
 have h54 : w.heap.size + 4 ≤ W0.heap.size := by omega
 generalize w1.heap.size = X at *
 generalize W0.heap.size = P5 at *
 clear hB hx hy hz hw_ hG5
 rintro W2 ⟨hB, hx, hy, hz, hw_, hX, hG5⟩
 have lX := hX.lt
 have ky := hy.cell
 have fy := hy.frozen
 have kX := hX.cell
 cases hq2 : q.2
 ·
  have HQ2 := Lib.hid hq2; clear hq2
  go_upto_region 21 with fail
  have HV := Lib.hid (show make11 s ⟨11, v, r, t, seen, tr, sp, ag, re⟩ = (q.1, (⟨1, v, r, t, seen, 0, sp, ag, re⟩ : Hd), true) by simp only [make11, HQ5.out, HQ2.out]; rfl)
  refine ret4b w true q.1 P5 X A5 n5 c5 (⟨1, v, r, t, seen, 0, sp, ag, re⟩ : Hd) X (w.heap.size + 1) (by kernel_rfl) (by kernel_rfl) (by kernel_rfl) (by kernel_rfl) (by omega) (by omega) ⟨(sc (sc (sc hB))), (((hX.sn).sn).sn), by simpa using (((hy.set 0 (.int .i64 12)).set 0 (.int .i64 1)).set 8 (.int .i64 0)), (((hz.sn).sn).sn), (((hw_.sn).sn).sn), (((hG5.sl).sl).sl), by simp; omega⟩ ?k0 ?k1 ?k2 ?k3 ?k4 ?hQ
  case k0 | k1 | k2 | k3 =>
   exact zmake0
  case k4 =>
   intros
   refine OpGoes.go fun K hK => ?_
   go_simp
   exact hK _ _ ⟨rfl, rfl⟩
  case hQ =>
   clear ky fy kX hB hx hy hz hw_ hG5 hX
   generalize hq2 : (⟨1, v, r, t, seen, 0, sp, ag, re⟩ : Hd) = h2 at *
   exact zmake1
 ·
  have HQ2 := Lib.hid hq2; clear hq2
  go_upto_region 21 with fail
  have HV := Lib.hid (show make11 s ⟨11, v, r, t, seen, tr, sp, ag, re⟩ = (q.1, (⟨12, v, r, t, seen, tr, sp, ag, re⟩ : Hd), true) by simp only [make11, HQ5.out, HQ2.out]; rfl)
  refine ret4b w true q.1 P5 X A5 n5 c5 (⟨12, v, r, t, seen, tr, sp, ag, re⟩ : Hd) X (w.heap.size + 1) (by kernel_rfl) (by kernel_rfl) (by kernel_rfl) (by kernel_rfl) (by omega) (by omega) ⟨(sc hB), (hX.sn), by simpa using (hy.set 0 (.int .i64 12)), (hz.sn), (hw_.sn), (hG5.sl), by simp; omega⟩ ?k0 ?k1 ?k2 ?k3 ?k4 ?hQ
  case k0 | k1 | k2 | k3 =>
   exact zmake0
  case k4 =>
   intros
   refine OpGoes.go fun K hK => ?_
   go_simp
   exact hK _ _ ⟨rfl, rfl⟩
  case hQ =>
   clear ky fy kX hB hx hy hz hw_ hG5 hX
   generalize hq2 : (⟨12, v, r, t, seen, tr, sp, ag, re⟩ : Hd) = h2 at *
   exact zmake1
set_option maxRecDepth 100000 in
set_option maxHeartbeats 4000000 in
theorem l6Make_10a (s : St) (A : Option Addr) (n cap lo hi : Nat) (v r t : Int) (seen : Pl) (tr sp : Int) (ag : Bool) (re : Int) (w : World) (hs : RgsW lo hi w A n cap s.rs) (hh : hi ≤ w.heap.size) (hlo : lo ≤ w.heap.size) (hok : stOk s = true) (hsp : sp < 0) :
  Calls Tryz.prog 76 #[stV s A n cap, hdV ⟨10, v, r, t, seen, tr, sp, ag, re⟩] w (RetSHB lo (make10 s ⟨10, v, r, t, seen, tr, sp, ag, re⟩) w) := by
 have HOK := Lib.hid hok
 have HLN := Lib.hid hs.1
 have HNT := Lib.hid (stOk_neat hok)
 clear hok
 have HSP := Lib.hid (show ¬ 0 ≤ sp by omega)
 unfold stV hdV
 dsimp only
 go_enter Tryz.func76, Tryz.ntmps76
 go_upto_region 3 with fail
 refine wp_abs (fun W => Below w.heap.size w W ∧ BoxAt W w.heap.size (aS s A n cap) 32 ∧ BoxAt W (w.heap.size + 1) (dH 10 v r t seen tr sp ag re) 35 ∧ BoxAt W (w.heap.size + 1 + 1) zS 32 ∧ BoxAt W (w.heap.size + 1 + 1 + 1) zH 35) ⟨(((((Below.refl _ _).alloc (Nat.le_refl _) _).alloc (by simp) _).alloc (by simp; omega) _).alloc (by simp; omega) _), (((BoxAt.new _ _ _).alloc _).alloc _).alloc _, ((BoxAt.new' (by simp)).alloc _).alloc _, (BoxAt.new' (by simp)).alloc _, BoxAt.new' (by simp)⟩ ?_
 rintro W0 ⟨hB, hx, hy, hz, hw_⟩
 have lw0 := hw_.lt
 have hs0 := hs.below hB hh
 have kx := hx.cell
 have ky := hy.cell
 have fy := hy.frozen
 go_upto_region 10 with fail
 refine wp_abs (fun W => Below w.heap.size w W ∧ BoxAt W w.heap.size (aS s A n cap) 32 ∧ BoxAt W (w.heap.size + 1) (dH 11 v r t seen tr sp ag re) 35 ∧ BoxAt W (w.heap.size + 1 + 1) zS 32 ∧ BoxAt W (w.heap.size + 1 + 1 + 1) zH 35) ⟨sc hB, hx.sn, by simpa using hy.set 0 (.int .i64 11), hz.sn, hw_.sn⟩ ?_
 clear hB hx hy hz hw_ lw0 hs0 kx ky fy
 rintro W0 ⟨hB, hx, hy, hz, hw_⟩
 have lw0 := hw_.lt
 have hs0 := hs.below hB hh
 have kx := hx.cell
 have ky := hy.cell
 have fy := hy.frozen
 go_wp2_with fail
 clear kx ky fy
 refine (saddRing_any s A n cap lo hi v _ hs0 (Nat.le_trans hh hB.size) (by have := HNT.out.2.1; have := HLN.out; omega) HNT.out.len).mono ?_
 rintro e w1 ⟨A5, n5, c5, rfl, hG5, hb5⟩
 replace hx := hx.below hb5 hx.lt
 replace hy := hy.below hb5 hy.lt
 replace hz := hz.below hb5 hz.lt
 replace hw_ := hw_.below hb5 hw_.lt
 have h5 := hb5.size
 replace hB := bstep hB hB.size hb5
 clear hb5
 generalize hq5 : addRing s v = q at *
 have HQ5 := Lib.hid hq5; clear hq5
 unfold stV
 go_upto_region 11 with fail
 refine wp_abs (fun W' => Below w.heap.size w W' ∧ BoxAt W' w.heap.size (aS s A n cap) 32 ∧ BoxAt W' (w.heap.size + 1) (dH 11 v r t seen tr sp ag re) 35 ∧ BoxAt W' (w.heap.size + 1 + 1) zS 32 ∧ BoxAt W' (w.heap.size + 1 + 1 + 1) zH 35 ∧ BoxAt W' w1.heap.size (aS q.1 A5 n5 c5) 32 ∧ RgsW W0.heap.size w1.heap.size W' A5 n5 c5 q.1.rs) ⟨hB.alloc hB.size _, hx.alloc _, hy.alloc _, hz.alloc _, hw_.alloc _, BoxAt.new _ _ _, hG5.al (Nat.le_refl _) _⟩ ?_
 have h54 : w.heap.size + 4 ≤ W0.heap.size := by omega
 generalize w1.heap.size = X at *
 generalize W0.heap.size = P5 at *
 clear hB hx hy hz hw_ hG5
 rintro W2 ⟨hB, hx, hy, hz, hw_, hX, hG5⟩
 have lX := hX.lt
 have ky := hy.cell
 have fy := hy.frozen
 have kX := hX.cell
 by_cases hq2 : q.2 < 0
 ·
  have HQ2 := Lib.hid hq2
  go_upto_region 12 with fail
  have HV := Lib.hid (show make10 s ⟨10, v, r, t, seen, tr, sp, ag, re⟩ = (s, ((⟨11, v, r, t, seen, tr, sp, ag, re⟩ : Hd)).rest 2, true) by unfold make10; dsimp only; rw [if_neg (show ¬ 0 ≤ sp by omega), HQ5.out, if_pos (show q.2 < 0 by omega)]; rfl)
  refine ret5b w true 2 s lo hi A n cap (⟨11, v, r, t, seen, tr, sp, ag, re⟩ : Hd) w.heap.size (w.heap.size + 1) (by kernel_rfl) (by kernel_rfl) (by kernel_rfl) (by kernel_rfl) (by kernel_rfl) (by omega) (by omega) ⟨hB, hx, hy, hz, hw_, hs.below hB hh, by omega⟩ ?k0 ?k1 ?k2 ?k3 ?k4 ?k5 ?hQ
  case k0 | k1 | k3 | k4 =>
   exact zmake0
  case k5 =>
   intros
   refine OpGoes.go fun K hK => ?_
   go_simp
   exact hK _ _ ⟨rfl, rfl⟩
  case k2 =>
   intros
   refine OpGoes.go fun K hK => ?_
   go_simp
   refine (l6Rest_any (⟨11, v, r, t, seen, tr, sp, ag, re⟩ : Hd) 2 _).mono ?_
   rintro e w1 ⟨rfl, hb1⟩
   exact ⟨_, rfl, hK _ _ ⟨rfl, hb1⟩⟩
  case hQ =>
   clear ky fy kX hB hx hy hz hw_ hG5 hX
   generalize hq2 : (⟨11, v, r, t, seen, tr, sp, ag, re⟩ : Hd) = h2 at *
   clear hq2
   intro σ W' e_ hB k7 k8 hG _
   replace k7 := k7.cell
   replace k8 := k8.cell
   simp only [lexAll]
   go_simp
   go_step
   go_wp2
   refine bodyPost_ret (v := .tuple #[stV s A n cap, hdV (h2.rest 2), .bool true]) (by simp [results, Tryz.results76, go_sem, k7, k8, stV, hdV, Hd.rest, Hd.zero]) rfl ⟨A, n, cap, by rw [HV.out], ?_, hB⟩
   rw [HV.out]
   exact hG.cut.mono (by omega) (Nat.le_refl _)
 ·
  have HQ2 := Lib.hid hq2
  have hq3 : 0 ≤ q.2 := by omega
  go_upto_region 14 with fail
  have HV := Lib.hid (show make10 s ⟨10, v, r, t, seen, tr, sp, ag, re⟩ = (q.1, (⟨11, v, r, t, seen, tr, q.2, ag, re⟩ : Hd), true) by unfold make10; dsimp only; rw [if_neg (show ¬ 0 ≤ sp by omega), HQ5.out, if_neg (show ¬ q.2 < 0 by omega)])
  refine ret4b w true q.1 P5 X A5 n5 c5 (⟨11, v, r, t, seen, tr, q.2, ag, re⟩ : Hd) X (w.heap.size + 1) (by kernel_rfl) (by kernel_rfl) (by kernel_rfl) (by kernel_rfl) (by omega) (by omega) ⟨(sc hB), (hX.sn), by simpa using (hy.set 9 (.int .i64 q.2)), (hz.sn), (hw_.sn), (hG5.sl), by simp; omega⟩ ?k0 ?k1 ?k2 ?k3 ?k4 ?hQ
  case k0 | k1 | k2 | k3 =>
   exact zmake0
  case k4 =>
   intros
   refine OpGoes.go fun K hK => ?_
   go_simp
   exact hK _ _ ⟨rfl, rfl⟩
  case hQ =>
   clear ky fy kX hB hx hy hz hw_ hG5 hX
   generalize hq2 : (⟨11, v, r, t, seen, tr, q.2, ag, re⟩ : Hd) = h2 at *
   exact zmake1
end Go.Proofs.YthpckpnlohfcbaaGreatDoor
