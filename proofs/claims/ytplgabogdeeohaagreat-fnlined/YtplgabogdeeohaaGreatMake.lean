/-
 The walk of a step of one who puts, of the model: a ring more.
-/
import Derived.Test.YtplgabogdeeohaaGreatPut9
namespace Go.Proofs.YtplgabogdeeohaaGreat
set_option linter.unusedSimpArgs false
set_option linter.unusedVariables false
open Go.RowKit
set_option linter.unusedVariables false
attribute [local go_sem] OpUpon
attribute [local go_sem ↓] Go.wp_at_zero Go.wp_at_succ

def make10 (s : St) (h : Hd) : St × Hd × Bool :=
 if 0 ≤ h.sp then (if ringB s h.sp then (s.turn h.sp fun _ => Rg.seed s.rd.toNat h.v, { h with at_ := 11 }, true) else (s, { h with at_ := 11 }, false))
 else if (addRing s h.v).2 < 0 then (s, h.rest 2, true) else ((addRing s h.v).1, { h with at_ := 11, sp := (addRing s h.v).2 }, true)
def make11 (s : St) (h : Hd) : St × Hd × Bool := ((linkR s h.r h.sp).1, (if (linkR s h.r h.sp).2 then { h with at_ := 12 } else { h with at_ := 1, tr := 0 }), true)
def make12 (s : St) (h : Hd) : St × Hd × Bool := ((swing s true h.r h.sp).1, { h.rest 1 with sp := -1 }, true)

set_option maxRecDepth 100000 in
set_option maxHeartbeats 4000000 in
theorem l6Make_12 (s : St) (A : Option Addr) (n cap lo hi : Nat) (v r t : Int) (seen : Pl) (tr sp : Int) (ag : Bool) (re : Int) (w : World) (hs : RgsW lo hi w A n cap s.rs) (hh : hi ≤ w.heap.size) (hlo : lo ≤ w.heap.size) (hok : stOk s = true) :
  Calls Tryz.prog 99 #[stV s A n cap, hdV ⟨12, v, r, t, seen, tr, sp, ag, re⟩] w (RetSHB lo (make12 s ⟨12, v, r, t, seen, tr, sp, ag, re⟩) w) := by
 have HOK := Lib.hid hok
 have HLN := Lib.hid hs.1
 have HNT := Lib.hid (stOk_neat hok)
 clear hok
 unfold stV hdV
 dsimp only
 go_enter Tryz.func99, Tryz.ntmps99
 go_upto_region 22 with fail
 refine wp_abs (fun W => Below w.heap.size w W ∧ BoxAt W w.heap.size (aS s A n cap) 58 ∧ BoxAt W (w.heap.size + 1) (dH 12 v r t seen tr sp ag re) 97 ∧ BoxAt W (w.heap.size + 1 + 1) zS 58 ∧ BoxAt W (w.heap.size + 1 + 1 + 1) zH 97) ⟨(((((Below.refl _ _).alloc (Nat.le_refl _) _).alloc (by simp) _).alloc (by simp; omega) _).alloc (by simp; omega) _), (((BoxAt.new _ _ _).alloc _).alloc _).alloc _, ((BoxAt.new' (by simp)).alloc _).alloc _, (BoxAt.new' (by simp)).alloc _, BoxAt.new' (by simp)⟩ ?_
 rintro W0 ⟨hB, hx, hy, hz, hw_⟩
 have lw0 := hw_.lt
 have hs0 := hs.below hB hh
 have kx := hx.cell
 have ky := hy.cell
 have fy := hy.frozen
 go_wp2_with fail
 clear kx ky fy
 refine (sswing_any s A n cap lo hi true r sp _ hs0 (Nat.le_trans hh hB.size) (by have := HNT.out.2.1; have := HLN.out; omega) HNT.out.len).mono ?_
 rintro e w1 ⟨A5, n5, c5, rfl, hG5, hb5⟩
 replace hx := hx.below hb5 hx.lt
 replace hy := hy.below hb5 hy.lt
 replace hz := hz.below hb5 hz.lt
 replace hw_ := hw_.below hb5 hw_.lt
 have h5 := hb5.size
 replace hB := bstep hB hB.size hb5
 clear hb5
 generalize hq5 : swing s true r sp = q at *
 have HQ5 := Lib.hid hq5; clear hq5
 unfold stV
 go_upto_region 23 with fail
 refine wp_abs (fun W' => Below w.heap.size w W' ∧ BoxAt W' w.heap.size (aS s A n cap) 58 ∧ BoxAt W' (w.heap.size + 1) (dH 12 v r t seen tr sp ag re) 97 ∧ BoxAt W' (w.heap.size + 1 + 1) zS 58 ∧ BoxAt W' (w.heap.size + 1 + 1 + 1) zH 97 ∧ BoxAt W' w1.heap.size (aS q.1 A5 n5 c5) 58 ∧ RgsW W0.heap.size w1.heap.size W' A5 n5 c5 q.1.rs) ⟨hB.alloc hB.size _, hx.alloc _, hy.alloc _, hz.alloc _, hw_.alloc _, BoxAt.new _ _ _, hG5.al (Nat.le_refl _) _⟩ ?_
 have h54 : w.heap.size + 4 ≤ W0.heap.size := by omega
 generalize w1.heap.size = X at *
 generalize W0.heap.size = P5 at *
 clear hB hx hy hz hw_ hG5
 rintro W2 ⟨hB, hx, hy, hz, hw_, hX, hG5⟩
 have lX := hX.lt
 have ky := hy.cell
 have fy := hy.frozen
 have kX := hX.cell
 go_upto_region 24 with fail
 have HV := Lib.hid (show make12 s ⟨12, v, r, t, seen, tr, sp, ag, re⟩ = (q.1, ((⟨12, v, r, t, seen, tr, (-1), ag, re⟩ : Hd)).rest 1, true) by simp only [make12, HQ5.out]; rfl)
 refine ret5b w true 1 q.1 P5 X A5 n5 c5 (⟨12, v, r, t, seen, tr, (-1), ag, re⟩ : Hd) X (w.heap.size + 1) (by kernel_rfl) (by kernel_rfl) (by kernel_rfl) (by kernel_rfl) (by kernel_rfl) (by omega) (by omega) ⟨(sc hB), (hX.sn), by simpa using (hy.set 9 (.int .i64 (-1))), (hz.sn), (hw_.sn), (hG5.sl), by simp; omega⟩ ?k0 ?k1 ?k2 ?k3 ?k4 ?k5 ?hQ
 case k0 | k1 | k3 | k4 =>
  intros
  rename_i k
  have kc_ := k.cell
  have kf_ := k.frozen
  refine OpGoes.go fun K hK => ?_
  go_simp
  first | exact hK _ _ ⟨rfl, rfl⟩ | exact hK _ _ rfl
 case k5 =>
  intros
  refine OpGoes.go fun K hK => ?_
  go_simp
  exact hK _ _ ⟨rfl, rfl⟩
 case k2 =>
  intros
  refine OpGoes.go fun K hK => ?_
  go_simp
  refine (l6Rest_any (⟨12, v, r, t, seen, tr, (-1), ag, re⟩ : Hd) 1 _).mono ?_
  rintro e w1 ⟨rfl, hb1⟩
  exact ⟨_, rfl, hK _ _ ⟨rfl, hb1⟩⟩
 case hQ =>
  clear ky fy kX hB hx hy hz hw_ hG5 hX
  generalize hq2 : (⟨12, v, r, t, seen, tr, (-1), ag, re⟩ : Hd) = h2 at *
  clear hq2
  intro σ W' e_ hB k7 k8 hG _
  replace k7 := k7.cell
  replace k8 := k8.cell
  simp only [lexAll]
  go_simp
  go_step
  go_wp2
  refine bodyPost_ret (v := .tuple #[stV q.1 A5 n5 c5, hdV (h2.rest 1), .bool true]) (by simp [results, Tryz.results99, go_sem, k7, k8, stV, hdV, Hd.rest, Hd.zero]) rfl ⟨A5, n5, c5, by rw [HV.out], ?_, hB⟩
  rw [HV.out]
  exact hG.cut.mono (by omega) (Nat.le_refl _)

set_option maxRecDepth 100000 in
set_option maxHeartbeats 4000000 in
theorem l6Make_11 (s : St) (A : Option Addr) (n cap lo hi : Nat) (v r t : Int) (seen : Pl) (tr sp : Int) (ag : Bool) (re : Int) (w : World) (hs : RgsW lo hi w A n cap s.rs) (hh : hi ≤ w.heap.size) (hlo : lo ≤ w.heap.size) (hok : stOk s = true) :
  Calls Tryz.prog 99 #[stV s A n cap, hdV ⟨11, v, r, t, seen, tr, sp, ag, re⟩] w (RetSHB lo (make11 s ⟨11, v, r, t, seen, tr, sp, ag, re⟩) w) := by
 have HOK := Lib.hid hok
 have HLN := Lib.hid hs.1
 have HNT := Lib.hid (stOk_neat hok)
 clear hok
 unfold stV hdV
 dsimp only
 go_enter Tryz.func99, Tryz.ntmps99
 go_upto_region 16 with fail
 refine wp_abs (fun W => Below w.heap.size w W ∧ BoxAt W w.heap.size (aS s A n cap) 58 ∧ BoxAt W (w.heap.size + 1) (dH 11 v r t seen tr sp ag re) 97 ∧ BoxAt W (w.heap.size + 1 + 1) zS 58 ∧ BoxAt W (w.heap.size + 1 + 1 + 1) zH 97) ⟨(((((Below.refl _ _).alloc (Nat.le_refl _) _).alloc (by simp) _).alloc (by simp; omega) _).alloc (by simp; omega) _), (((BoxAt.new _ _ _).alloc _).alloc _).alloc _, ((BoxAt.new' (by simp)).alloc _).alloc _, (BoxAt.new' (by simp)).alloc _, BoxAt.new' (by simp)⟩ ?_
 rintro W0 ⟨hB, hx, hy, hz, hw_⟩
 have lw0 := hw_.lt
 have hs0 := hs.below hB hh
 have kx := hx.cell
 have ky := hy.cell
 have fy := hy.frozen
 go_wp2_with fail
 clear kx ky fy
 refine (slink_any s A n cap lo hi r sp _ hs0 (Nat.le_trans hh hB.size) (by have := HNT.out.2.1; have := HLN.out; omega) HNT.out.len).mono ?_
 rintro e w1 ⟨A5, n5, c5, rfl, hG5, hb5⟩
 replace hx := hx.below hb5 hx.lt
 replace hy := hy.below hb5 hy.lt
 replace hz := hz.below hb5 hz.lt
 replace hw_ := hw_.below hb5 hw_.lt
 have h5 := hb5.size
 replace hB := bstep hB hB.size hb5
 clear hb5
 generalize hq5 : linkR s r sp = q at *
 have HQ5 := Lib.hid hq5; clear hq5
 unfold stV
 go_upto_region 17 with fail
 refine wp_abs (fun W' => Below w.heap.size w W' ∧ BoxAt W' w.heap.size (aS s A n cap) 58 ∧ BoxAt W' (w.heap.size + 1) (dH 11 v r t seen tr sp ag re) 97 ∧ BoxAt W' (w.heap.size + 1 + 1) zS 58 ∧ BoxAt W' (w.heap.size + 1 + 1 + 1) zH 97 ∧ BoxAt W' w1.heap.size (aS q.1 A5 n5 c5) 58 ∧ RgsW W0.heap.size w1.heap.size W' A5 n5 c5 q.1.rs) ⟨hB.alloc hB.size _, hx.alloc _, hy.alloc _, hz.alloc _, hw_.alloc _, BoxAt.new _ _ _, hG5.al (Nat.le_refl _) _⟩ ?_
 have h54 : w.heap.size + 4 ≤ W0.heap.size := by omega
 generalize w1.heap.size = X at *
 generalize W0.heap.size = P5 at *
 clear hB hx hy hz hw_ hG5
 rintro W2 ⟨hB, hx, hy, hz, hw_, hX, hG5⟩
 have lX := hX.lt
 have ky := hy.cell
 have fy := hy.frozen
 have kX := hX.cell
 cases hq2 : q.2
 ·
  have HQ2 := Lib.hid hq2; clear hq2
  go_upto_region 21 with fail
  have HV := Lib.hid (show make11 s ⟨11, v, r, t, seen, tr, sp, ag, re⟩ = (q.1, (⟨1, v, r, t, seen, 0, sp, ag, re⟩ : Hd), true) by simp only [make11, HQ5.out, HQ2.out]; rfl)
  refine ret4b w true q.1 P5 X A5 n5 c5 (⟨1, v, r, t, seen, 0, sp, ag, re⟩ : Hd) X (w.heap.size + 1) (by kernel_rfl) (by kernel_rfl) (by kernel_rfl) (by kernel_rfl) (by omega) (by omega) ⟨(sc (sc (sc hB))), (((hX.sn).sn).sn), by simpa using (((hy.set 0 (.int .i64 12)).set 0 (.int .i64 1)).set 8 (.int .i64 0)), (((hz.sn).sn).sn), (((hw_.sn).sn).sn), (((hG5.sl).sl).sl), by simp; omega⟩ ?k0 ?k1 ?k2 ?k3 ?k4 ?hQ
  case k0 | k1 | k2 | k3 =>
   intros
   rename_i k
   have kc_ := k.cell
   have kf_ := k.frozen
   refine OpGoes.go fun K hK => ?_
   go_simp
   first | exact hK _ _ ⟨rfl, rfl⟩ | exact hK _ _ rfl
  case k4 =>
   intros
   refine OpGoes.go fun K hK => ?_
   go_simp
   exact hK _ _ ⟨rfl, rfl⟩
  case hQ =>
   clear ky fy kX hB hx hy hz hw_ hG5 hX
   generalize hq2 : (⟨1, v, r, t, seen, 0, sp, ag, re⟩ : Hd) = h2 at *
   clear hq2
   intro σ W' e_ hB k7 k8 hG _
   replace k7 := k7.cell
   replace k8 := k8.cell
   simp only [lexAll]
   go_simp
   go_step
   go_wp2
   refine bodyPost_ret (v := .tuple #[stV q.1 A5 n5 c5, hdV h2, .bool true]) (by simp [results, Tryz.results99, go_sem, k7, k8, stV, hdV, Hd.rest, Hd.zero]) rfl ⟨A5, n5, c5, by rw [HV.out], ?_, hB⟩
   rw [HV.out]
   exact hG.cut.mono (by omega) (Nat.le_refl _)
 ·
  have HQ2 := Lib.hid hq2; clear hq2
  go_upto_region 21 with fail
  have HV := Lib.hid (show make11 s ⟨11, v, r, t, seen, tr, sp, ag, re⟩ = (q.1, (⟨12, v, r, t, seen, tr, sp, ag, re⟩ : Hd), true) by simp only [make11, HQ5.out, HQ2.out]; rfl)
  refine ret4b w true q.1 P5 X A5 n5 c5 (⟨12, v, r, t, seen, tr, sp, ag, re⟩ : Hd) X (w.heap.size + 1) (by kernel_rfl) (by kernel_rfl) (by kernel_rfl) (by kernel_rfl) (by omega) (by omega) ⟨(sc hB), (hX.sn), by simpa using (hy.set 0 (.int .i64 12)), (hz.sn), (hw_.sn), (hG5.sl), by simp; omega⟩ ?k0 ?k1 ?k2 ?k3 ?k4 ?hQ
  case k0 | k1 | k2 | k3 =>
   intros
   rename_i k
   have kc_ := k.cell
   have kf_ := k.frozen
   refine OpGoes.go fun K hK => ?_
   go_simp
   first | exact hK _ _ ⟨rfl, rfl⟩ | exact hK _ _ rfl
  case k4 =>
   intros
   refine OpGoes.go fun K hK => ?_
   go_simp
   exact hK _ _ ⟨rfl, rfl⟩
  case hQ =>
   clear ky fy kX hB hx hy hz hw_ hG5 hX
   generalize hq2 : (⟨12, v, r, t, seen, tr, sp, ag, re⟩ : Hd) = h2 at *
   clear hq2
   intro σ W' e_ hB k7 k8 hG _
   replace k7 := k7.cell
   replace k8 := k8.cell
   simp only [lexAll]
   go_simp
   go_step
   go_wp2
   refine bodyPost_ret (v := .tuple #[stV q.1 A5 n5 c5, hdV h2, .bool true]) (by simp [results, Tryz.results99, go_sem, k7, k8, stV, hdV, Hd.rest, Hd.zero]) rfl ⟨A5, n5, c5, by rw [HV.out], ?_, hB⟩
   rw [HV.out]
   exact hG.cut.mono (by omega) (Nat.le_refl _)

set_option maxRecDepth 100000 in
set_option maxHeartbeats 4000000 in
theorem l6Make_10a (s : St) (A : Option Addr) (n cap lo hi : Nat) (v r t : Int) (seen : Pl) (tr sp : Int) (ag : Bool) (re : Int) (w : World) (hs : RgsW lo hi w A n cap s.rs) (hh : hi ≤ w.heap.size) (hlo : lo ≤ w.heap.size) (hok : stOk s = true) (hsp : sp < 0) :
  Calls Tryz.prog 99 #[stV s A n cap, hdV ⟨10, v, r, t, seen, tr, sp, ag, re⟩] w (RetSHB lo (make10 s ⟨10, v, r, t, seen, tr, sp, ag, re⟩) w) := by
 have HOK := Lib.hid hok
 have HLN := Lib.hid hs.1
 have HNT := Lib.hid (stOk_neat hok)
 clear hok
 have HSP := Lib.hid (show ¬ 0 ≤ sp by omega)
 unfold stV hdV
 dsimp only
 go_enter Tryz.func99, Tryz.ntmps99
 go_upto_region 3 with fail
 refine wp_abs (fun W => Below w.heap.size w W ∧ BoxAt W w.heap.size (aS s A n cap) 58 ∧ BoxAt W (w.heap.size + 1) (dH 10 v r t seen tr sp ag re) 97 ∧ BoxAt W (w.heap.size + 1 + 1) zS 58 ∧ BoxAt W (w.heap.size + 1 + 1 + 1) zH 97) ⟨(((((Below.refl _ _).alloc (Nat.le_refl _) _).alloc (by simp) _).alloc (by simp; omega) _).alloc (by simp; omega) _), (((BoxAt.new _ _ _).alloc _).alloc _).alloc _, ((BoxAt.new' (by simp)).alloc _).alloc _, (BoxAt.new' (by simp)).alloc _, BoxAt.new' (by simp)⟩ ?_
 rintro W0 ⟨hB, hx, hy, hz, hw_⟩
 have lw0 := hw_.lt
 have hs0 := hs.below hB hh
 have kx := hx.cell
 have ky := hy.cell
 have fy := hy.frozen
 go_upto_region 10 with fail
 refine wp_abs (fun W => Below w.heap.size w W ∧ BoxAt W w.heap.size (aS s A n cap) 58 ∧ BoxAt W (w.heap.size + 1) (dH 11 v r t seen tr sp ag re) 97 ∧ BoxAt W (w.heap.size + 1 + 1) zS 58 ∧ BoxAt W (w.heap.size + 1 + 1 + 1) zH 97) ⟨sc hB, hx.sn, by simpa using hy.set 0 (.int .i64 11), hz.sn, hw_.sn⟩ ?_
 clear hB hx hy hz hw_ lw0 hs0 kx ky fy
 rintro W0 ⟨hB, hx, hy, hz, hw_⟩
 have lw0 := hw_.lt
 have hs0 := hs.below hB hh
 have kx := hx.cell
 have ky := hy.cell
 have fy := hy.frozen
 go_wp2_with fail
 clear kx ky fy
 refine (saddRing_any s A n cap lo hi v _ hs0 (Nat.le_trans hh hB.size) (by have := HNT.out.2.1; have := HLN.out; omega) HNT.out.len).mono ?_
 rintro e w1 ⟨A5, n5, c5, rfl, hG5, hb5⟩
 replace hx := hx.below hb5 hx.lt
 replace hy := hy.below hb5 hy.lt
 replace hz := hz.below hb5 hz.lt
 replace hw_ := hw_.below hb5 hw_.lt
 have h5 := hb5.size
 replace hB := bstep hB hB.size hb5
 clear hb5
 generalize hq5 : addRing s v = q at *
 have HQ5 := Lib.hid hq5; clear hq5
 unfold stV
 go_upto_region 11 with fail
 refine wp_abs (fun W' => Below w.heap.size w W' ∧ BoxAt W' w.heap.size (aS s A n cap) 58 ∧ BoxAt W' (w.heap.size + 1) (dH 11 v r t seen tr sp ag re) 97 ∧ BoxAt W' (w.heap.size + 1 + 1) zS 58 ∧ BoxAt W' (w.heap.size + 1 + 1 + 1) zH 97 ∧ BoxAt W' w1.heap.size (aS q.1 A5 n5 c5) 58 ∧ RgsW W0.heap.size w1.heap.size W' A5 n5 c5 q.1.rs) ⟨hB.alloc hB.size _, hx.alloc _, hy.alloc _, hz.alloc _, hw_.alloc _, BoxAt.new _ _ _, hG5.al (Nat.le_refl _) _⟩ ?_
 have h54 : w.heap.size + 4 ≤ W0.heap.size := by omega
 generalize w1.heap.size = X at *
 generalize W0.heap.size = P5 at *
 clear hB hx hy hz hw_ hG5
 rintro W2 ⟨hB, hx, hy, hz, hw_, hX, hG5⟩
 have lX := hX.lt
 have ky := hy.cell
 have fy := hy.frozen
 have kX := hX.cell
 by_cases hq2 : q.2 < 0
 ·
  have HQ2 := Lib.hid hq2
  go_upto_region 12 with fail
  have HV := Lib.hid (show make10 s ⟨10, v, r, t, seen, tr, sp, ag, re⟩ = (s, ((⟨11, v, r, t, seen, tr, sp, ag, re⟩ : Hd)).rest 2, true) by unfold make10; dsimp only; rw [if_neg (show ¬ 0 ≤ sp by omega), HQ5.out, if_pos (show q.2 < 0 by omega)]; rfl)
  refine ret5b w true 2 s lo hi A n cap (⟨11, v, r, t, seen, tr, sp, ag, re⟩ : Hd) w.heap.size (w.heap.size + 1) (by kernel_rfl) (by kernel_rfl) (by kernel_rfl) (by kernel_rfl) (by kernel_rfl) (by omega) (by omega) ⟨hB, hx, hy, hz, hw_, hs.below hB hh, by omega⟩ ?k0 ?k1 ?k2 ?k3 ?k4 ?k5 ?hQ
  case k0 | k1 | k3 | k4 =>
   intros
   rename_i k
   have kc_ := k.cell
   have kf_ := k.frozen
   refine OpGoes.go fun K hK => ?_
   go_simp
   first | exact hK _ _ ⟨rfl, rfl⟩ | exact hK _ _ rfl
  case k5 =>
   intros
   refine OpGoes.go fun K hK => ?_
   go_simp
   exact hK _ _ ⟨rfl, rfl⟩
  case k2 =>
   intros
   refine OpGoes.go fun K hK => ?_
   go_simp
   refine (l6Rest_any (⟨11, v, r, t, seen, tr, sp, ag, re⟩ : Hd) 2 _).mono ?_
   rintro e w1 ⟨rfl, hb1⟩
   exact ⟨_, rfl, hK _ _ ⟨rfl, hb1⟩⟩
  case hQ =>
   clear ky fy kX hB hx hy hz hw_ hG5 hX
   generalize hq2 : (⟨11, v, r, t, seen, tr, sp, ag, re⟩ : Hd) = h2 at *
   clear hq2
   intro σ W' e_ hB k7 k8 hG _
   replace k7 := k7.cell
   replace k8 := k8.cell
   simp only [lexAll]
   go_simp
   go_step
   go_wp2
   refine bodyPost_ret (v := .tuple #[stV s A n cap, hdV (h2.rest 2), .bool true]) (by simp [results, Tryz.results99, go_sem, k7, k8, stV, hdV, Hd.rest, Hd.zero]) rfl ⟨A, n, cap, by rw [HV.out], ?_, hB⟩
   rw [HV.out]
   exact hG.cut.mono (by omega) (Nat.le_refl _)
 ·
  have HQ2 := Lib.hid hq2
  have hq3 : 0 ≤ q.2 := by omega
  go_upto_region 14 with fail
  have HV := Lib.hid (show make10 s ⟨10, v, r, t, seen, tr, sp, ag, re⟩ = (q.1, (⟨11, v, r, t, seen, tr, q.2, ag, re⟩ : Hd), true) by unfold make10; dsimp only; rw [if_neg (show ¬ 0 ≤ sp by omega), HQ5.out, if_neg (show ¬ q.2 < 0 by omega)])
  refine ret4b w true q.1 P5 X A5 n5 c5 (⟨11, v, r, t, seen, tr, q.2, ag, re⟩ : Hd) X (w.heap.size + 1) (by kernel_rfl) (by kernel_rfl) (by kernel_rfl) (by kernel_rfl) (by omega) (by omega) ⟨(sc hB), (hX.sn), by simpa using (hy.set 9 (.int .i64 q.2)), (hz.sn), (hw_.sn), (hG5.sl), by simp; omega⟩ ?k0 ?k1 ?k2 ?k3 ?k4 ?hQ
  case k0 | k1 | k2 | k3 =>
   intros
   rename_i k
   have kc_ := k.cell
   have kf_ := k.frozen
   refine OpGoes.go fun K hK => ?_
   go_simp
   first | exact hK _ _ ⟨rfl, rfl⟩ | exact hK _ _ rfl
  case k4 =>
   intros
   refine OpGoes.go fun K hK => ?_
   go_simp
   exact hK _ _ ⟨rfl, rfl⟩
  case hQ =>
   clear ky fy kX hB hx hy hz hw_ hG5 hX
   generalize hq2 : (⟨11, v, r, t, seen, tr, q.2, ag, re⟩ : Hd) = h2 at *
   clear hq2
   intro σ W' e_ hB k7 k8 hG _
   replace k7 := k7.cell
   replace k8 := k8.cell
   simp only [lexAll]
   go_simp
   go_step
   go_wp2
   refine bodyPost_ret (v := .tuple #[stV q.1 A5 n5 c5, hdV h2, .bool true]) (by simp [results, Tryz.results99, go_sem, k7, k8, stV, hdV, Hd.rest, Hd.zero]) rfl ⟨A5, n5, c5, by rw [HV.out], ?_, hB⟩
   rw [HV.out]
   exact hG.cut.mono (by omega) (Nat.le_refl _)

end Go.Proofs.YtplgabogdeeohaaGreat
