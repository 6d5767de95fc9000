/-
 The walk of the program's steps of one who puts: those that do one small thing to the store.
-/
import Derived.Test.YthpckpnlohfcbaaGreatDoorPsA
namespace Go.Proofs.YthpckpnlohfcbaaGreatDoor
set_option linter.unusedSimpArgs false
set_option linter.unusedVariables false
open Go.RowKit
set_option linter.unusedVariables false
attribute [local go_sem] OpUpon
attribute [local go_sem ↓] Go.wp_at_zero Go.wp_at_succ
set_option maxRecDepth 100000 in
set_option maxHeartbeats 4000000 in
theorem ips_3 (s : St) (A : Option Addr) (n cap lo hi B : Nat) (a0 a1 a2 a3 a4 a5 : Addr) (v r t : Int) (seen : Pl) (tr sp : Int) (ag : Bool) (re : Int) (w : World) (hs : RgsW lo hi w A n cap s.rs) (hh : hi ≤ w.heap.size) (hok : stOk s = true) (hrb : ringB s r = true) (hE : Snt B a0 a1 a2 a3 a4 a5 w) :
  Calls Tryz.prog 115 #[stV s A n cap, hdV ⟨3, v, r, t, seen, tr, sp, ag, re⟩] w (RetSH (PH (put3 s ⟨3, v, r, t, seen, tr, sp, ag, re⟩)) w) := by
 have HOK := Lib.hid hok
 have HRB := Lib.hid hrb
 have HLN := Lib.hid hs.1
 have HNT := Lib.hid (stOk_neat hok)
 obtain ⟨z0, z1, z2⟩ := ringB_at HLN.out hrb
 clear hok hrb
 unfold stV hdV
 dsimp only
 go_enter Tryz.func115, Tryz.ntmps115
 go_upto_region 1 with fail
 refine wp_abs (fun W => Below w.heap.size w W ∧ BoxAt W w.heap.size (aS s A n cap) 32 ∧ BoxAt W (w.heap.size + 1) (dH 3 v r t seen tr sp ag re) 35 ∧ BoxAt W (w.heap.size + 1 + 1) zS 32 ∧ BoxAt W (w.heap.size + 1 + 1 + 1) zH 35) ⟨(((((Below.refl _ _).alloc (Nat.le_refl _) _).alloc (by simp) _).alloc (by simp; omega) _).alloc (by simp; omega) _), (((BoxAt.new _ _ _).alloc _).alloc _).alloc _, ((BoxAt.new' (by simp)).alloc _).alloc _, (BoxAt.new' (by simp)).alloc _, BoxAt.new' (by simp)⟩ ?_
 rintro W0 ⟨hB, hx, hy, hz, hw_⟩
 have lw0 := hw_.lt
 have hs0 := hs.below hB hh
 have kx := hx.cell
 have ky := hy.cell
 have fy := hy.frozen
 obtain ⟨e0, e1, ⟨e2, n2_⟩, ⟨e3, n3_⟩, ⟨e4, n4_⟩, e5, n5_⟩ := hE.below hB
 go_wp2_with fail
 clear kx ky fy
 refine (iswing_any s A n cap lo hi B a0 a1 a4 true r t _ hs0 (Nat.le_trans hh hB.size) e0 e1 e4 n4_ (by have := HNT.out.2.1; have := HLN.out; omega) HNT.out.len).mono ?_
 rintro e w1 ⟨A5, n5, c5, rfl, hG5, hb5⟩
 replace hG5 := hG5.toW
 replace hx := hx.below hb5 hx.lt
 replace hy := hy.below hb5 hy.lt
 replace hz := hz.below hb5 hz.lt
 replace hw_ := hw_.below hb5 hw_.lt
 have h5 := hb5.size
 replace hB := bstep hB hB.size hb5
 clear hb5
 generalize hq5 : swing s true r t = q at *
 have HQ5 := Lib.hid hq5; clear hq5
 unfold stV
 go_upto_region 2 with fail
 refine wp_abs (fun W' => Below w.heap.size w W' ∧ BoxAt W' w.heap.size (aS s A n cap) 32 ∧ BoxAt W' (w.heap.size + 1) (dH 3 v r t seen tr sp ag re) 35 ∧ BoxAt W' (w.heap.size + 1 + 1) zS 32 ∧ BoxAt W' (w.heap.size + 1 + 1 + 1) zH 35 ∧ BoxAt W' w1.heap.size (aS q.1 A5 n5 c5) 32 ∧ RgsW W0.heap.size w1.heap.size W' A5 n5 c5 q.1.rs) ⟨hB.alloc hB.size _, hx.alloc _, hy.alloc _, hz.alloc _, hw_.alloc _, BoxAt.new _ _ _, hG5.al (Nat.le_refl _) _⟩ ?_
 have h54 : w.heap.size + 4 ≤ W0.heap.size := by omega
 generalize w1.heap.size = X at *
 generalize W0.heap.size = P5 at *
 clear hB hx hy hz hw_ hG5 e0 e1 e2 e3 e4 e5
 rintro W2 ⟨hB, hx, hy, hz, hw_, hX, hG5⟩
 have lX := hX.lt
 have ky := hy.cell
 have fy := hy.frozen
 have kX := hX.cell
 go_upto_region 3 with fail
 have HV := Lib.hid (show PH (put3 s ⟨3, v, r, t, seen, tr, sp, ag, re⟩) = (q.1, (⟨1, v, r, t, seen, tr, sp, ag, re⟩ : Hd)) by rw [← HQ5.out]; rfl)
 refine ret4 w q.1 P5 X A5 n5 c5 (⟨1, v, r, t, seen, tr, sp, ag, re⟩ : Hd) X (w.heap.size + 1) (by kernel_rfl) (by kernel_rfl) (by kernel_rfl) (by kernel_rfl) (by omega) (by omega) ⟨(sc hB), (hX.sn), by simpa using (hy.set 0 (.int .i64 1)), (hz.sn), (hw_.sn), (hG5.sl), by simp; omega⟩ ?k0 ?k1 ?k2 ?k3 ?hQ
 case k0 | k1 | k2 | k3 =>
  intros
  rename_i k
  have kc_ := k.cell
  have kf_ := k.frozen
  refine OpGoes.go fun K hK => ?_
  go_simp
  first | exact hK _ _ ⟨rfl, rfl⟩ | exact hK _ _ rfl
 case hQ =>
  clear ky fy kX hB hx hy hz hw_ hG5 hX
  generalize hq2 : (⟨1, v, r, t, seen, tr, sp, ag, re⟩ : Hd) = h2 at *
  clear hq2
  intro σ W' _ hB k7 k8 hG _
  replace k7 := k7.cell
  replace k8 := k8.cell
  simp only [lexAll]
  go_simp
  go_step
  go_wp2
  refine bodyPost_ret (v := .tuple #[stV q.1 A5 n5 c5, hdV h2]) (by simp [results, Tryz.results115, go_sem, k7, k8, stV, hdV]) rfl ⟨A5, n5, c5, by rw [HV.out], ?_, hB⟩
  rw [HV.out]
  exact hG.cut.mono (Nat.zero_le _) (Nat.le_refl _)
set_option maxRecDepth 100000 in
set_option maxHeartbeats 4000000 in
theorem ips_9 (s : St) (A : Option Addr) (n cap lo hi B : Nat) (a0 a1 a2 a3 a4 a5 : Addr) (v r t : Int) (seen : Pl) (tr sp : Int) (ag : Bool) (re : Int) (w : World) (hs : RgsW lo hi w A n cap s.rs) (hh : hi ≤ w.heap.size) (hok : stOk s = true) (hrb : ringB s r = true) (hE : Snt B a0 a1 a2 a3 a4 a5 w) :
  Calls Tryz.prog 121 #[stV s A n cap, hdV ⟨9, v, r, t, seen, tr, sp, ag, re⟩] w (RetSH (PH (put9 s ⟨9, v, r, t, seen, tr, sp, ag, re⟩)) w) := by
 have HOK := Lib.hid hok
 have HRB := Lib.hid hrb
 have HLN := Lib.hid hs.1
 have HNT := Lib.hid (stOk_neat hok)
 obtain ⟨z0, z1, z2⟩ := ringB_at HLN.out hrb
 clear hok hrb
 unfold stV hdV
 dsimp only
 go_enter Tryz.func121, Tryz.ntmps121
 go_upto_region 1 with fail
 refine wp_abs (fun W => Below w.heap.size w W ∧ BoxAt W w.heap.size (aS s A n cap) 32 ∧ BoxAt W (w.heap.size + 1) (dH 9 v r t seen tr sp ag re) 35 ∧ BoxAt W (w.heap.size + 1 + 1) zS 32 ∧ BoxAt W (w.heap.size + 1 + 1 + 1) zH 35) ⟨(((((Below.refl _ _).alloc (Nat.le_refl _) _).alloc (by simp) _).alloc (by simp; omega) _).alloc (by simp; omega) _), (((BoxAt.new _ _ _).alloc _).alloc _).alloc _, ((BoxAt.new' (by simp)).alloc _).alloc _, (BoxAt.new' (by simp)).alloc _, BoxAt.new' (by simp)⟩ ?_
 rintro W0 ⟨hB, hx, hy, hz, hw_⟩
 have lw0 := hw_.lt
 have hs0 := hs.below hB hh
 have kx := hx.cell
 have ky := hy.cell
 have fy := hy.frozen
 obtain ⟨e0, e1, ⟨e2, n2_⟩, ⟨e3, n3_⟩, ⟨e4, n4_⟩, e5, n5_⟩ := hE.below hB
 go_wp2_with fail
 clear kx ky fy
 refine (iclose_any s A n cap lo hi B a0 a1 a2 r _ hs0 (Nat.le_trans hh hB.size) e0 e1 e2 n2_ (by have := HNT.out.2.1; have := HLN.out; omega) HNT.out.len).mono ?_
 rintro e w1 ⟨A5, n5, c5, rfl, hG5, hb5⟩
 replace hG5 := hG5.toW
 replace hx := hx.below hb5 hx.lt
 replace hy := hy.below hb5 hy.lt
 replace hz := hz.below hb5 hz.lt
 replace hw_ := hw_.below hb5 hw_.lt
 have h5 := hb5.size
 replace hB := bstep hB hB.size hb5
 clear hb5
 generalize hq5 : closeR s r = q at *
 have HQ5 := Lib.hid hq5; clear hq5
 unfold stV
 go_upto_region 2 with fail
 refine wp_abs (fun W' => Below w.heap.size w W' ∧ BoxAt W' w.heap.size (aS s A n cap) 32 ∧ BoxAt W' (w.heap.size + 1) (dH 9 v r t seen tr sp ag re) 35 ∧ BoxAt W' (w.heap.size + 1 + 1) zS 32 ∧ BoxAt W' (w.heap.size + 1 + 1 + 1) zH 35 ∧ BoxAt W' w1.heap.size (aS q.1 A5 n5 c5) 32 ∧ RgsW W0.heap.size w1.heap.size W' A5 n5 c5 q.1.rs) ⟨hB.alloc hB.size _, hx.alloc _, hy.alloc _, hz.alloc _, hw_.alloc _, BoxAt.new _ _ _, hG5.al (Nat.le_refl _) _⟩ ?_
 have h54 : w.heap.size + 4 ≤ W0.heap.size := by omega
 generalize w1.heap.size = X at *
 generalize W0.heap.size = P5 at *
 clear hB hx hy hz hw_ hG5 e0 e1 e2 e3 e4 e5
 rintro W2 ⟨hB, hx, hy, hz, hw_, hX, hG5⟩
 have lX := hX.lt
 have ky := hy.cell
 have fy := hy.frozen
 have kX := hX.cell
 go_upto_region 3 with fail
 have HV := Lib.hid (show PH (put9 s ⟨9, v, r, t, seen, tr, sp, ag, re⟩) = (q.1, (⟨10, v, r, t, seen, tr, sp, ag, re⟩ : Hd)) by rw [← HQ5.out]; rfl)
 refine ret4 w q.1 P5 X A5 n5 c5 (⟨10, v, r, t, seen, tr, sp, ag, re⟩ : Hd) X (w.heap.size + 1) (by kernel_rfl) (by kernel_rfl) (by kernel_rfl) (by kernel_rfl) (by omega) (by omega) ⟨(sc hB), (hX.sn), by simpa using (hy.set 0 (.int .i64 10)), (hz.sn), (hw_.sn), (hG5.sl), by simp; omega⟩ ?k0 ?k1 ?k2 ?k3 ?hQ
 case k0 | k1 | k2 | k3 =>
  intros
  rename_i k
  have kc_ := k.cell
  have kf_ := k.frozen
  refine OpGoes.go fun K hK => ?_
  go_simp
  first | exact hK _ _ ⟨rfl, rfl⟩ | exact hK _ _ rfl
 case hQ =>
  clear ky fy kX hB hx hy hz hw_ hG5 hX
  generalize hq2 : (⟨10, v, r, t, seen, tr, sp, ag, re⟩ : Hd) = h2 at *
  clear hq2
  intro σ W' _ hB k7 k8 hG _
  replace k7 := k7.cell
  replace k8 := k8.cell
  simp only [lexAll]
  go_simp
  go_step
  go_wp2
  refine bodyPost_ret (v := .tuple #[stV q.1 A5 n5 c5, hdV h2]) (by simp [results, Tryz.results121, go_sem, k7, k8, stV, hdV]) rfl ⟨A5, n5, c5, by rw [HV.out], ?_, hB⟩
  rw [HV.out]
  exact hG.cut.mono (Nat.zero_le _) (Nat.le_refl _)
set_option maxRecDepth 100000 in
set_option maxHeartbeats 4000000 in
theorem ips_4 (s : St) (A : Option Addr) (n cap lo hi B : Nat) (a0 a1 a2 a3 a4 a5 : Addr) (v r t : Int) (seen : Pl) (tr sp : Int) (ag : Bool) (re : Int) (w : World) (hs : RgsW lo hi w A n cap s.rs) (hh : hi ≤ w.heap.size) (hok : stOk s = true) (hrb : ringB s r = true) (hE : Snt B a0 a1 a2 a3 a4 a5 w) :
  Calls Tryz.prog 116 #[stV s A n cap, hdV ⟨4, v, r, t, seen, tr, sp, ag, re⟩] w (RetSH (PH (put4 s ⟨4, v, r, t, seen, tr, sp, ag, re⟩)) w) := by
 have HOK := Lib.hid hok
 have HRB := Lib.hid hrb
 have HLN := Lib.hid hs.1
 have HNT := Lib.hid (stOk_neat hok)
 obtain ⟨z0, z1, z2⟩ := ringB_at HLN.out hrb
 clear hok hrb
 unfold stV hdV
 dsimp only
 go_enter Tryz.func116, Tryz.ntmps116
 go_upto_region 1 with fail
 refine wp_abs (fun W => Below w.heap.size w W ∧ BoxAt W w.heap.size (aS s A n cap) 32 ∧ BoxAt W (w.heap.size + 1) (dH 4 v r t seen tr sp ag re) 35 ∧ BoxAt W (w.heap.size + 1 + 1) zS 32 ∧ BoxAt W (w.heap.size + 1 + 1 + 1) zH 35) ⟨(((((Below.refl _ _).alloc (Nat.le_refl _) _).alloc (by simp) _).alloc (by simp; omega) _).alloc (by simp; omega) _), (((BoxAt.new _ _ _).alloc _).alloc _).alloc _, ((BoxAt.new' (by simp)).alloc _).alloc _, (BoxAt.new' (by simp)).alloc _, BoxAt.new' (by simp)⟩ ?_
 rintro W0 ⟨hB, hx, hy, hz, hw_⟩
 have lw0 := hw_.lt
 have hs0 := hs.below hB hh
 have kx := hx.cell
 have ky := hy.cell
 have fy := hy.frozen
 obtain ⟨e0, e1, ⟨e2, n2_⟩, ⟨e3, n3_⟩, ⟨e4, n4_⟩, e5, n5_⟩ := hE.below hB
 go_wp2_with fail
 clear kx ky fy
 refine (iputTicket_any s A n cap lo hi B a0 a1 a2 r _ hs0 (Nat.le_trans hh hB.size) e0 e1 e2 n2_ (by have := HNT.out.2.1; have := HLN.out; omega) HNT.out.len).mono ?_
 rintro e w1 ⟨A5, n5, c5, rfl, hG5, hb5⟩
 replace hG5 := hG5.toW
 replace hx := hx.below hb5 hx.lt
 replace hy := hy.below hb5 hy.lt
 replace hz := hz.below hb5 hz.lt
 replace hw_ := hw_.below hb5 hw_.lt
 have h5 := hb5.size
 replace hB := bstep hB hB.size hb5
 clear hb5
 generalize hq5 : putTicket s r = q at *
 have HQ5 := Lib.hid hq5; clear hq5
 unfold stV
 go_upto_region 2 with fail
 refine wp_abs (fun W' => Below w.heap.size w W' ∧ BoxAt W' w.heap.size (aS s A n cap) 32 ∧ BoxAt W' (w.heap.size + 1) (dH 4 v r t seen tr sp ag re) 35 ∧ BoxAt W' (w.heap.size + 1 + 1) zS 32 ∧ BoxAt W' (w.heap.size + 1 + 1 + 1) zH 35 ∧ BoxAt W' w1.heap.size (aS q.1 A5 n5 c5) 32 ∧ RgsW W0.heap.size w1.heap.size W' A5 n5 c5 q.1.rs) ⟨hB.alloc hB.size _, hx.alloc _, hy.alloc _, hz.alloc _, hw_.alloc _, BoxAt.new _ _ _, hG5.al (Nat.le_refl _) _⟩ ?_
 have h54 : w.heap.size + 4 ≤ W0.heap.size := by omega
 generalize w1.heap.size = X at *
 generalize W0.heap.size = P5 at *
 clear hB hx hy hz hw_ hG5 e0 e1 e2 e3 e4 e5
 rintro W2 ⟨hB, hx, hy, hz, hw_, hX, hG5⟩
 have lX := hX.lt
 have ky := hy.cell
 have fy := hy.frozen
 have kX := hX.cell
 go_upto_region 3 with fail
 refine wp_abs (fun W' => Below w.heap.size w W' ∧ BoxAt W' w.heap.size (aS s A n cap) 32 ∧ BoxAt W' (w.heap.size + 1) (dH 5 v r q.2 seen tr sp ag re) 35 ∧ BoxAt W' (w.heap.size + 1 + 1) zS 32 ∧ BoxAt W' (w.heap.size + 1 + 1 + 1) zH 35 ∧ BoxAt W' X (aS q.1 A5 n5 c5) 32 ∧ RgsW P5 X W' A5 n5 c5 q.1.rs) ⟨sc (sc hB), (hx.sn).sn, by simpa using (hy.set 3 (.int .i64 q.2)).set 0 (.int .i64 5), (hz.sn).sn, (hw_.sn).sn, (hX.sn).sn, (hG5.sl).sl⟩ ?_
 clear ky fy kX hB hx hy hz hw_ hG5 hX hs0 lX
 rintro W3 ⟨hB, hx, hy, hz, hw_, hX, hG5⟩
 have lX := hX.lt
 have hs0 := hs.below hB hh
 obtain ⟨b, rg, A', n', cap', rfl, hlb, hbh, hri, c0, c1', c2, c3, c4, hpw⟩ := hs0.at_ z2
 have HAT := Lib.hid (St.at_some (s := s) (z := r) hri)
 have hnum := stOk_nums HOK.out rg (List.mem_of_getElem? hri)
 clear hri
 clear c0 c1' c3 c4 hpw hnum hs0
 have kx := hx.cell
 have ky := hy.cell
 have fy := hy.frozen
 have kX := hX.cell
 cases hcl : rg.c
 ·
  rw [hcl] at c2
  have HCL := Lib.hid hcl; clear hcl
  go_upto_region 5 with fail
  clear c2
  have HV := Lib.hid (show PH (put4 s ⟨4, v, r, t, seen, tr, sp, ag, re⟩) = (q.1, (⟨5, v, r, q.2, seen, tr, sp, ag, re⟩ : Hd)) by simp only [PH, put4, fin, HQ5.out, HAT.out, HCL.out]; rfl)
  refine ret4 w q.1 P5 X A5 n5 c5 (⟨5, v, r, q.2, seen, tr, sp, ag, re⟩ : Hd) X (w.heap.size + 1) (by kernel_rfl) (by kernel_rfl) (by kernel_rfl) (by kernel_rfl) (by omega) (by omega) ⟨hB, hX, hy, hz, hw_, hG5, by omega⟩ ?k0 ?k1 ?k2 ?k3 ?hQ
  case k0 | k1 | k2 | k3 =>
   intros
   rename_i k
   have kc_ := k.cell
   have kf_ := k.frozen
   refine OpGoes.go fun K hK => ?_
   go_simp
   first | exact hK _ _ ⟨rfl, rfl⟩ | exact hK _ _ rfl
  case hQ =>
   clear kx ky fy kX hB hx hy hz hw_ hG5 hX
   generalize hq2 : (⟨5, v, r, q.2, seen, tr, sp, ag, re⟩ : Hd) = h2 at *
   clear hq2
   intro σ W' _ hB k7 k8 hG _
   replace k7 := k7.cell
   replace k8 := k8.cell
   simp only [lexAll]
   go_simp
   go_step
   go_wp2
   refine bodyPost_ret (v := .tuple #[stV q.1 A5 n5 c5, hdV h2]) (by simp [results, Tryz.results116, go_sem, k7, k8, stV, hdV]) rfl ⟨A5, n5, c5, by rw [HV.out], ?_, hB⟩
   rw [HV.out]
   exact hG.cut.mono (Nat.zero_le _) (Nat.le_refl _)
 ·
  rw [hcl] at c2
  have HCL := Lib.hid hcl; clear hcl
  go_upto_region 5 with fail
  clear c2
  have HV := Lib.hid (show PH (put4 s ⟨4, v, r, t, seen, tr, sp, ag, re⟩) = (q.1, (⟨10, v, r, q.2, seen, tr, sp, ag, re⟩ : Hd)) by simp only [PH, put4, fin, HQ5.out, HAT.out, HCL.out]; rfl)
  refine ret4 w q.1 P5 X A5 n5 c5 (⟨10, v, r, q.2, seen, tr, sp, ag, re⟩ : Hd) X (w.heap.size + 1) (by kernel_rfl) (by kernel_rfl) (by kernel_rfl) (by kernel_rfl) (by omega) (by omega) ⟨(sc hB), (hX.sn), by simpa using (hy.set 0 (.int .i64 10)), (hz.sn), (hw_.sn), (hG5.sl), by simp; omega⟩ ?k0 ?k1 ?k2 ?k3 ?hQ
  case k0 | k1 | k2 | k3 =>
   intros
   rename_i k
   have kc_ := k.cell
   have kf_ := k.frozen
   refine OpGoes.go fun K hK => ?_
   go_simp
   first | exact hK _ _ ⟨rfl, rfl⟩ | exact hK _ _ rfl
  case hQ =>
   clear kx ky fy kX hB hx hy hz hw_ hG5 hX
   generalize hq2 : (⟨10, v, r, q.2, seen, tr, sp, ag, re⟩ : Hd) = h2 at *
   clear hq2
   intro σ W' _ hB k7 k8 hG _
   replace k7 := k7.cell
   replace k8 := k8.cell
   simp only [lexAll]
   go_simp
   go_step
   go_wp2
   refine bodyPost_ret (v := .tuple #[stV q.1 A5 n5 c5, hdV h2]) (by simp [results, Tryz.results116, go_sem, k7, k8, stV, hdV]) rfl ⟨A5, n5, c5, by rw [HV.out], ?_, hB⟩
   rw [HV.out]
   exact hG.cut.mono (Nat.zero_le _) (Nat.le_refl _)
end Go.Proofs.YthpckpnlohfcbaaGreatDoor
namespace Go.Proofs.YthpckpnlohfcbaaGreatDoor
set_option linter.unusedSimpArgs false
set_option linter.unusedVariables false
open Go.RowKit
set_option linter.unusedVariables false
attribute [local go_sem] OpUpon
attribute [local go_sem ↓] Go.wp_at_zero Go.wp_at_succ
theorem DOf.copy {lo hi : Nat} {w : World} {rows : List Rw} {L : List Rg} (h : DOf lo hi w rows L) (hp : ∀ r ∈ L, 0 < r.ps.length) : CopyOf lo w rows L :=
 ⟨fun j a ha => by
  obtain ⟨r, hr, h1, h2, h3, h4, g, hg, _, ho⟩ := h.1 j a ha
  have := hp r (List.mem_of_getElem? hr)
  exact ⟨r, hr, h1, h2, h3, h4, by rw [← ho.1]; exact this, g, hg, ho⟩, h.2⟩
theorem addRing_no {s : St} (hok : stOk s = true) {v : Int} (h : (addRing s v).2 < 0) : (addRing s v).1 = s := by
 unfold addRing at h ⊢
 rw [hok] at h ⊢
 simp only [Bool.not_true, Bool.false_eq_true, if_false] at h ⊢
 split at h
 ·
  rename_i hc
  rw [if_pos hc]
 ·
  exfalso
  dsimp only at h
  omega
theorem addRing_two {s : St} {v : Int} : (addRing s v).2 = -1 ∨ 0 ≤ (addRing s v).2 := by
 unfold addRing
 split
 · exact .inl rfl
 ·
  split
  · exact .inl rfl
  · exact .inr (by dsimp only; omega)
def RetS0 (s : St) (w : World) (e : Ending) (w' : World) : Prop :=
 ∃ A n cap, e = .returned (stV s A n cap) ∧ RgsW 0 w'.heap.size w' A n cap s.rs ∧ Below w.heap.size w w'
def isnV (s : St) (N Q M X b1 n c1 q : Nat) (A : Option Addr) (cap : Nat) (rows : List Rw) (v sp : Int) : List Sl := [.v (.pointer (some ⟨X, 2, none⟩)),
 .v (.slice (some ⟨b1, 0, none⟩) n c1),
 .v sp,
 .v (pT N),
 .v s.rd,
 .v v,
 .e fun σ w => ∃ (g cg : Nat), σ 6 = .tuple #[.agg #[.int .i64 0, .int .i64 1, .bool false, .int .i64 ((-1)), .slice (some ⟨g, 0, none⟩) q cg], .bool true] ∧ PlsO M w g q cg (seeded q v),
 .e fun σ w => ∃ (g cg : Nat), σ 7 = .tuple #[.agg #[.int .i64 0, .int .i64 1, .bool false, .int .i64 ((-1)), .slice (some ⟨g, 0, none⟩) q cg], .bool true] ∧ PlsO M w g q cg (seeded q v),
 .e fun σ w => ∃ (g cg : Nat), σ 8 = .agg #[.int .i64 0, .int .i64 1, .bool false, .int .i64 ((-1)), .slice (some ⟨g, 0, none⟩) q cg] ∧ PlsO M w g q cg (seeded q v),
 .v (.bool true),
 .v (.pointer (some ⟨b1, sp.toNat * 5, none⟩)),
 .e fun σ w => ∃ (g cg : Nat), RwsO Q w b1 n c1 (rows.set sp.toNat (⟨0, 1, false, -1, some ⟨g, 0, none⟩, q, cg⟩ : Rw)) ∧ PlsO M w g q cg (seeded q v)]
set_option maxRecDepth 100000 in
set_option maxHeartbeats 4000000 in
theorem iseedNew_any (s : St) (A : Option Addr) (n cap lo hi : Nat) (sp v : Int) (w : World) (hs : RgsW lo hi w A n cap s.rs) (hh : hi ≤ w.heap.size) (hok : stOk s = true) (hsp : ringB s sp = true) (hv : valB v = true) :
  Calls Tryz.prog 142 #[stV s A n cap, sp, v] w (RetS0 (s.turn sp fun _ => Rg.seed s.rd.toNat v) w) := by
 have HLN := Lib.hid hs.1
 have HNT := Lib.hid (stOk_neat hok)
 have hrd := stOk_rd hok
 obtain ⟨y0, y1, y2⟩ := ringB_at HLN.out hsp
 clear hsp hok
 unfold stV
 go_enter Tryz.func142, Tryz.ntmps142
 go_upto_region 1 with fail
 refine wp_abs (fun W => Below w.heap.size w W ∧ BoxAt W w.heap.size (aS s A n cap) 32 ∧ BoxAt W (w.heap.size + 1) zS 32) ⟨((Below.refl _ _).alloc (Nat.le_refl _) _).alloc (by simp) _, (BoxAt.new _ _ _).alloc _, BoxAt.new' (by simp)⟩ ?_
 rintro W0 ⟨hB, hx, hz⟩
 have lz := hz.lt
 have kx := hx.cell
 go_wp2_with fail
 clear kx
 refine (icopy_any s A n cap lo hi _ (hs.below hB hh) (Nat.le_trans hh hB.size) (by have := HNT.out.1; have := HLN.out; omega) (by have := HNT.out.2.1; have := HLN.out; omega) HNT.out.cp).mono ?_
 rintro e w1 ⟨b1, c1, rfl, hD, hb⟩
 obtain ⟨b1', rows, e1, hb1l, hR, hDO⟩ := hD.2 (by have := HNT.out.1; have := HLN.out; omega)
 injection e1 with e1
 injection e1 with e1
 subst e1
 have hC := hDO.copy fun r hr => (HNT.out.2.2 r hr).1
 clear hD hDO
 unfold stV
 replace hx := hx.below hb hx.lt
 replace hz := hz.below hb hz.lt
 have h1 := hb.size
 replace hB := bstep hB hB.size hb
 clear hb
 have hQ4 : w.heap.size + 2 ≤ W0.heap.size := by omega
 have hb1Q := hR.2.1
 go_upto_region 2 with fail
 refine wp_abs (fun W => Below w.heap.size w W ∧ BoxAt W w.heap.size (aS s A n cap) 32 ∧ BoxAt W (w.heap.size + 1) zS 32 ∧ BoxAt W w1.heap.size (aS s (some ⟨b1, 0, none⟩) n c1) 32 ∧ RwsO W0.heap.size W b1 n c1 rows ∧ CopyOf W0.heap.size W rows s.rs ∧ w1.heap.size + 1 ≤ W.heap.size) ⟨hB.alloc hB.size _, hx.alloc _, hz.alloc _, BoxAt.new _ _ _, Own.below hR ((Below.refl _ _).alloc (Nat.le_refl _) _), hC.below ((Below.refl _ _).alloc (Nat.le_refl _) _), by simp⟩ ?_
 clear hB hx hz hR hC
 obtain ⟨Q, hQe⟩ : ∃ Q, W0.heap.size = Q := ⟨_, rfl⟩
 rw [hQe] at hQ4 hb1Q h1 ⊢
 obtain ⟨X, hXe⟩ : ∃ X, w1.heap.size = X := ⟨_, rfl⟩
 rw [hXe] at h1 hb1l ⊢
 obtain ⟨M, hMe⟩ : ∃ M, X + 1 = M := ⟨_, rfl⟩
 rw [hMe]
 clear hQe hXe
 rintro W2 ⟨hB, hx, hz, hX, hRw, hC, hM⟩
 obtain ⟨q, hq⟩ : ∃ q : Nat, s.rd = q := ⟨s.rd.toNat, by omega⟩
 have HQR := Lib.hid (show s.rd.toNat = q by omega)
 have HCON := Lib.hid (show ∀ W : World, Calls Tryz.prog 161 #[s.rd, v] W (RetRgB 0 1 false (-1) q (seeded q v) true W) from fun W => by rw [hq]; exact iseeded_yes q v W (by simp only [roundB, Bool.and_eq_true, decide_eq_true_eq]; omega) (by omega) (by omega) hv)
 unfold RetRgB rgV at HCON
 clear hq
 go_cut [20] (fun _ W' => Below w.heap.size w W' ∧ BoxAt W' w.heap.size (aS s A n cap) 32 ∧ BoxAt W' (w.heap.size + 1) zS 32 ∧ BoxAt W' X (aS s (some ⟨b1, 0, none⟩) n c1) 32 ∧ RgsW Q W'.heap.size W' (some ⟨b1, 0, none⟩) n c1 (s.rs.set sp.toNat ⟨0, 1, false, -1, seeded q v⟩))
 case first =>
  refine wp_region2v (fun w w' => Below w.heap.size w w') (fun _ _ h => h.size) (fun _ => Below.refl _ _) (fun L W' => Below w.heap.size w W' ∧ BoxAt W' w.heap.size (aS s A n cap) 32 ∧ BoxAt W' (w.heap.size + 1) zS 32 ∧ BoxAt W' X (aS s (some ⟨b1, 0, none⟩) n c1) 32 ∧ CopyOf Q W' rows s.rs ∧ M ≤ W'.heap.size ∧ (L 11 = false → RwsO Q W' b1 n c1 rows)) (isnV s w.heap.size Q M X b1 n c1 q A cap rows v sp) (fun j => [0, 0, 0, 0, 0, 0, 0, 0, 0, 0, 0, 1].getD j 0) [] (by kernel_rfl) (by kernel_rfl) ?_ ?_ ?_
   (.still rfl ?a0 <| .still rfl ?a1 <| .still rfl ?a2 <| .still rfl ?a3 <| .still rfl ?a4 <| .still rfl ?a5 <| .grow rfl ?a6 <| .still rfl ?a7 <| .still rfl ?a8 <| .still rfl ?a9 <| .still rfl ?a10 <| .store rfl ?a11 <| .nil) ?_ ?_
  · exact ⟨fun _ _ _ h ⟨g, cg, e, hp⟩ => ⟨g, cg, (h 6 (List.mem_singleton.2 rfl)).symm.trans e, hp⟩, fun _ _ _ h ⟨g, cg, e, hp⟩ => ⟨g, cg, (h 7 (List.mem_singleton.2 rfl)).symm.trans e, hp⟩, fun _ _ _ h ⟨g, cg, e, hp⟩ => ⟨g, cg, (h 8 (List.mem_singleton.2 rfl)).symm.trans e, hp⟩, fun _ _ _ _ h => h, trivial⟩
  · exact ⟨fun σ w w' hb ⟨g, cg, e, hp⟩ => ⟨g, cg, e, hp.below hb⟩, fun σ w w' hb ⟨g, cg, e, hp⟩ => ⟨g, cg, e, hp.below hb⟩, fun σ w w' hb ⟨g, cg, e, hp⟩ => ⟨g, cg, e, hp.below hb⟩, fun σ w w' hb ⟨g, cg, hp⟩ => ⟨g, cg, Own.below hp.1 hb, hp.2.below hb⟩, trivial⟩
  · exact ⟨hB.drew, hx, hz, hX, hC, hM, fun _ => hRw⟩
  case a0 | a2 | a3 | a5 =>
   go_light
   intro L σ W' hcl hL hC hw
   clear hw hcl hL hC
   refine OpGoes.go fun K hK => ?_
   go_simp
   exact hK _ _ ⟨rfl, rfl⟩
  case a1 =>
   go_light
   intro L σ W' hcl hL hC hw
   have e0 := wV hw 0 rfl
   have kX := hC.2.2.2.1.cell
   clear hw hcl hL hC
   refine OpGoes.go fun K hK => ?_
   go_simp
   exact hK _ _ ⟨rfl, rfl⟩
  case a4 =>
   go_light
   intro L σ W' hcl hL hC hw
   have e3 := wV hw 3 rfl
   have ks := hC.2.1.cell
   clear hw hcl hL hC
   refine OpGoes.go fun K hK => ?_
   go_simp
   exact hK _ _ ⟨rfl, rfl⟩
  case a6 =>
   go_light
   intro L σ W' hcl hL hC hw
   have e4 := wV hw 4 rfl
   have e5 := wV hw 5 rfl
   clear hw
   have HC := Lib.hid hC
   clear hC
   clear hcl hL
   refine OpGoes.go fun K hK => ?_
   go_simp
   obtain ⟨hB, hx, hz, hX, hC, hM, hRw⟩ := HC.out
   refine (HCON.out _).mono ?_
   rintro e w1 ⟨g, cg, rfl, hO8, hb1⟩
   exact ⟨_, rfl, hK _ _ ⟨⟨bstep hB hB.size hb1, hx.below hb1 hx.lt, hz.below hb1 hz.lt, hX.below hb1 hX.lt, hC.below hb1, Nat.le_trans hM hb1.size, fun h => Own.below (hRw (by simpa [upd] using h)) hb1⟩, ⟨g, cg, rfl, hO8.mono hM⟩, hb1⟩⟩
  case a7 =>
   go_light
   intro L σ W' hcl hL hC hw
   obtain ⟨g, cg, e6, hp6⟩ := wE hw 6 rfl
   clear hw hcl hL hC
   refine OpGoes.go fun K hK => ?_
   go_simp
   exact hK _ _ ⟨rfl, ⟨g, cg, rfl, hp6⟩⟩
  case a8 =>
   go_light
   intro L σ W' hcl hL hC hw
   obtain ⟨g, cg, e7, hp7⟩ := wE hw 7 rfl
   clear hw hcl hL hC
   refine OpGoes.go fun K hK => ?_
   go_simp
   exact hK _ _ ⟨rfl, ⟨g, cg, rfl, hp7⟩⟩
  case a9 =>
   go_light
   intro L σ W' hcl hL hC hw
   obtain ⟨g, cg, e7, hp7⟩ := wE hw 7 rfl
   clear hw hcl hL hC
   refine OpGoes.go fun K hK => ?_
   go_simp
   exact hK _ _ ⟨rfl, rfl⟩
  case a10 =>
   go_light
   intro L σ W' hcl hL hC hw
   have e1 := wV hw 1 rfl
   have e2 := wV hw 2 rfl
   have b1_ : (0 : Int) ≤ sp := by omega
   have b2_ : sp < (n : Int) := by omega
   clear hw hcl hL hC
   refine OpGoes.go fun K hK => ?_
   go_simp
   exact hK _ _ ⟨rfl, rfl⟩
  case a11 =>
   go_light
   intro L σ W' hcl hL hC hw hne
   obtain ⟨g, cg, e8, hp8⟩ := wE hw 8 rfl
   have e10 := wV hw 10 rfl
   clear hw hne
   obtain ⟨hB, hx, hz, hX, hC, hM, hRw⟩ := hC
   have hR10 := (hRw hL)
   obtain ⟨a0, ha0⟩ : ∃ a0, rows[sp.toNat]? = some a0 := ⟨_, List.getElem?_eq_getElem (by have := hR10.1; omega)⟩
   have d0 := Own.cell_ Rw.cs_len hR10 (j := 0) ha0 rfl
   have d1 := Own.cell_ Rw.cs_len hR10 (j := 1) ha0 rfl
   have d2 := Own.cell_ Rw.cs_len hR10 (j := 2) ha0 rfl
   have d3 := Own.cell_ Rw.cs_len hR10 (j := 3) ha0 rfl
   have d4 := Own.cell_ Rw.cs_len hR10 (j := 4) ha0 rfl
   rw [Nat.add_zero] at d0
   have df := Own.frozen_ hR10
   have HB_ := Lib.hid hB
   have HX_ := Lib.hid hx
   have HZ_ := Lib.hid hz
   have HY_ := Lib.hid hX
   have HC_ := Lib.hid hC
   have HM_ := Lib.hid hM
   have HR_ := Lib.hid hR10
   have HP_ := Lib.hid hp8
   have hb1w := hR10.2.1
   clear hB hx hX hz hC hM hRw hR10 ha0 hp8
   clear hcl hL
   refine OpGoes.go fun K hK => ?_
   go_simp
   have hset := Own.setEl HR_.out Rw.cs_len (by omega) (i := sp.toNat) (by omega) (⟨0, 1, false, -1, some ⟨g, 0, none⟩, q, cg⟩ : Rw)
   obtain ⟨csb, hbb⟩ : ∃ cs, BoxAt W' b1 cs 79 := by obtain ⟨_, _, _, _, cur, hb, _⟩ := HR_.out; exact ⟨cur, hb⟩
   refine hK _ _ ⟨⟨(sc (sc (sc (sc (sc HB_.out))))), (((((HX_.out.sn).sn).sn).sn).sn), (((((HZ_.out.sn).sn).sn).sn).sn), (((((HY_.out.sn).sn).sn).sn).sn), CopyOf.setCells (⟨0, 1, false, -1, some ⟨g, 0, none⟩, q, cg⟩ : Rw).cs (sp.toNat * 5) hbb (by decide) HC_.out, by simpa using HM_.out, fun h => absurd h (by simp [upd])⟩, ⟨g, cg, hset, (((((HP_.out.set_ne (by have := HP_.out.ge; omega) _ _).set_ne (by have := HP_.out.ge; omega) _ _).set_ne (by have := HP_.out.ge; omega) _ _).set_ne (by have := HP_.out.ge; omega) _ _).set_ne (by have := HP_.out.ge; omega) _ _)⟩, by simp, fun j hj hn hR => ?_⟩
   refine keepV ?_ j hj hn hR
   exact ⟨fun _ _ ⟨g, cg, e, hp⟩ => ⟨g, cg, e, (((((hp.set_ne (by have := hp.ge; omega) _ _).set_ne (by have := hp.ge; omega) _ _).set_ne (by have := hp.ge; omega) _ _).set_ne (by have := hp.ge; omega) _ _).set_ne (by have := hp.ge; omega) _ _)⟩, fun _ _ ⟨g, cg, e, hp⟩ => ⟨g, cg, e, (((((hp.set_ne (by have := hp.ge; omega) _ _).set_ne (by have := hp.ge; omega) _ _).set_ne (by have := hp.ge; omega) _ _).set_ne (by have := hp.ge; omega) _ _).set_ne (by have := hp.ge; omega) _ _)⟩, fun _ _ ⟨g, cg, e, hp⟩ => ⟨g, cg, e, (((((hp.set_ne (by have := hp.ge; omega) _ _).set_ne (by have := hp.ge; omega) _ _).set_ne (by have := hp.ge; omega) _ _).set_ne (by have := hp.ge; omega) _ _).set_ne (by have := hp.ge; omega) _ _)⟩, fun h => absurd rfl h, trivial⟩
  ·
   intro L L' W' hLL hC
   obtain ⟨hB, hx, hz, hX, hC, hM, hRw⟩ := hC
   exact ⟨hB, hx, hz, hX, hC, hM, fun h => hRw (hLL _ h)⟩
  ·
   intro σ L W' hall hC hRR
   obtain ⟨hB, hx, hz, hX, hC, hM, hRw⟩ := hC
   obtain ⟨g, cg, hset, hp10⟩ := dE hRR 11 rfl
   clear hRR
   simp only [lexAll]
   go_simp
   go_step
   go_meet
   exact ⟨hB, hx, hz, hX, rgs_seed hset hC HLN.out (by omega) rfl rfl rfl rfl rfl hp10 (by omega)⟩
 case rest =>
  clear hB hx hz hX hRw hC hM
  obtain ⟨hB, hx, hz, hX, hG⟩ := hcut
  have hTU : s.turn sp (fun _ => Rg.seed s.rd.toNat v) = { s with rs := s.rs.set sp.toNat ⟨0, 1, false, -1, seeded q v⟩ } := by
   obtain ⟨r0, hr0⟩ : ∃ r0, s.rs[sp.toNat]? = some r0 := ⟨_, List.getElem?_eq_getElem (by have := HLN.out; omega)⟩
   rw [St.turn_some hr0, HQR.out]
   rfl
  have HTU := Lib.hid hTU; clear hTU
  have kX := hX.cell
  have kz := hz.cell
  have fz := hz.frozen
  go_wp2
  refine bodyPost_ret (v := stV ({ s with rs := s.rs.set sp.toNat ⟨0, 1, false, -1, seeded q v⟩ } : St) (some ⟨b1, 0, none⟩) n c1) (by simp [results, Tryz.results142, go_sem, kz, stV]) rfl ⟨some ⟨b1, 0, none⟩, n, c1, by rw [HTU.out], ?_, ?_⟩
  ·
   rw [HTU.out]
   exact (RgsW.sts hG (by omega) (aS s (some ⟨b1, 0, none⟩) n c1) 0).cut.mono (Nat.zero_le _) (Nat.le_refl _)
  · exact Below.setCells (by omega) (aS s (some ⟨b1, 0, none⟩) n c1) 0 hB
set_option maxRecDepth 100000 in
set_option maxHeartbeats 4000000 in
theorem ips_11 (s : St) (A : Option Addr) (n cap lo hi B : Nat) (a0 a1 a2 a3 a4 a5 : Addr) (v r t : Int) (seen : Pl) (tr sp : Int) (ag : Bool) (re : Int) (w : World) (hs : RgsW lo hi w A n cap s.rs) (hh : hi ≤ w.heap.size) (hok : stOk s = true) (hrb : ringB s r = true) (hE : Snt B a0 a1 a2 a3 a4 a5 w) :
  Calls Tryz.prog 123 #[stV s A n cap, hdV ⟨11, v, r, t, seen, tr, sp, ag, re⟩] w (RetSH (PH (make11 s ⟨11, v, r, t, seen, tr, sp, ag, re⟩)) w) := by
 have HOK := Lib.hid hok
 have HRB := Lib.hid hrb
 have HLN := Lib.hid hs.1
 have HNT := Lib.hid (stOk_neat hok)
 obtain ⟨z0, z1, z2⟩ := ringB_at HLN.out hrb
 clear hok hrb
 unfold stV hdV
 dsimp only
 go_enter Tryz.func123, Tryz.ntmps123
 go_upto_region 1 with fail
 refine wp_abs (fun W => Below w.heap.size w W ∧ BoxAt W w.heap.size (aS s A n cap) 32 ∧ BoxAt W (w.heap.size + 1) (dH 11 v r t seen tr sp ag re) 35 ∧ BoxAt W (w.heap.size + 1 + 1) zS 32 ∧ BoxAt W (w.heap.size + 1 + 1 + 1) zH 35) ⟨(((((Below.refl _ _).alloc (Nat.le_refl _) _).alloc (by simp) _).alloc (by simp; omega) _).alloc (by simp; omega) _), (((BoxAt.new _ _ _).alloc _).alloc _).alloc _, ((BoxAt.new' (by simp)).alloc _).alloc _, (BoxAt.new' (by simp)).alloc _, BoxAt.new' (by simp)⟩ ?_
 rintro W0 ⟨hB, hx, hy, hz, hw_⟩
 have lw0 := hw_.lt
 have hs0 := hs.below hB hh
 have kx := hx.cell
 have ky := hy.cell
 have fy := hy.frozen
 obtain ⟨e0, e1, ⟨e2, n2_⟩, ⟨e3, n3_⟩, ⟨e4, n4_⟩, e5, n5_⟩ := hE.below hB
 go_wp2_with fail
 clear kx ky fy
 refine (ilink_any s A n cap lo hi B a0 a1 a2 a4 r sp _ hs0 (Nat.le_trans hh hB.size) e0 e1 e2 n2_ e4 n4_ (by have := HNT.out.2.1; have := HLN.out; omega) HNT.out.len).mono ?_
 rintro e w1 ⟨A5, n5, c5, rfl, hG5, hb5⟩
 replace hG5 := hG5.toW
 replace hx := hx.below hb5 hx.lt
 replace hy := hy.below hb5 hy.lt
 replace hz := hz.below hb5 hz.lt
 replace hw_ := hw_.below hb5 hw_.lt
 have h5 := hb5.size
 replace hB := bstep hB hB.size hb5
 clear hb5
 generalize hq5 : linkR s r sp = q at *
 have HQ5 := Lib.hid hq5; clear hq5
 unfold stV
 go_upto_region 2 with fail
 refine wp_abs (fun W' => Below w.heap.size w W' ∧ BoxAt W' w.heap.size (aS s A n cap) 32 ∧ BoxAt W' (w.heap.size + 1) (dH 11 v r t seen tr sp ag re) 35 ∧ BoxAt W' (w.heap.size + 1 + 1) zS 32 ∧ BoxAt W' (w.heap.size + 1 + 1 + 1) zH 35 ∧ BoxAt W' w1.heap.size (aS q.1 A5 n5 c5) 32 ∧ RgsW W0.heap.size w1.heap.size W' A5 n5 c5 q.1.rs) ⟨hB.alloc hB.size _, hx.alloc _, hy.alloc _, hz.alloc _, hw_.alloc _, BoxAt.new _ _ _, hG5.al (Nat.le_refl _) _⟩ ?_
 have h54 : w.heap.size + 4 ≤ W0.heap.size := by omega
 generalize w1.heap.size = X at *
 generalize W0.heap.size = P5 at *
 clear hB hx hy hz hw_ hG5 e0 e1 e2 e3 e4 e5
 rintro W2 ⟨hB, hx, hy, hz, hw_, hX, hG5⟩
 have lX := hX.lt
 have ky := hy.cell
 have fy := hy.frozen
 have kX := hX.cell
 cases hq2 : q.2
 ·
  have HQ2 := Lib.hid hq2; clear hq2
  go_upto_region 6 with fail
  have HV := Lib.hid (show PH (make11 s ⟨11, v, r, t, seen, tr, sp, ag, re⟩) = (q.1, (⟨1, v, r, t, seen, 0, sp, ag, re⟩ : Hd)) by simp only [PH, make11, HQ5.out, HQ2.out]; rfl)
  refine ret4 w q.1 P5 X A5 n5 c5 (⟨1, v, r, t, seen, 0, sp, ag, re⟩ : Hd) X (w.heap.size + 1) (by kernel_rfl) (by kernel_rfl) (by kernel_rfl) (by kernel_rfl) (by omega) (by omega) ⟨(sc (sc hB)), ((hX.sn).sn), by simpa using ((hy.set 8 (.int .i64 0)).set 0 (.int .i64 1)), ((hz.sn).sn), ((hw_.sn).sn), ((hG5.sl).sl), by simp; omega⟩ ?k0 ?k1 ?k2 ?k3 ?hQ
  case k0 | k1 | k2 | k3 =>
   intros
   rename_i k
   have kc_ := k.cell
   have kf_ := k.frozen
   refine OpGoes.go fun K hK => ?_
   go_simp
   first | exact hK _ _ ⟨rfl, rfl⟩ | exact hK _ _ rfl
  case hQ =>
   clear ky fy kX hB hx hy hz hw_ hG5 hX
   generalize hq2 : (⟨1, v, r, t, seen, 0, sp, ag, re⟩ : Hd) = h2 at *
   clear hq2
   intro σ W' _ hB k7 k8 hG _
   replace k7 := k7.cell
   replace k8 := k8.cell
   simp only [lexAll]
   go_simp
   go_step
   go_wp2
   refine bodyPost_ret (v := .tuple #[stV q.1 A5 n5 c5, hdV h2]) (by simp [results, Tryz.results123, go_sem, k7, k8, stV, hdV]) rfl ⟨A5, n5, c5, by rw [HV.out], ?_, hB⟩
   rw [HV.out]
   exact hG.cut.mono (Nat.zero_le _) (Nat.le_refl _)
 ·
  have HQ2 := Lib.hid hq2; clear hq2
  go_upto_region 4 with fail
  have HV := Lib.hid (show PH (make11 s ⟨11, v, r, t, seen, tr, sp, ag, re⟩) = (q.1, (⟨12, v, r, t, seen, tr, sp, ag, re⟩ : Hd)) by simp only [PH, make11, HQ5.out, HQ2.out, if_true])
  refine ret4 w q.1 P5 X A5 n5 c5 (⟨12, v, r, t, seen, tr, sp, ag, re⟩ : Hd) X (w.heap.size + 1) (by kernel_rfl) (by kernel_rfl) (by kernel_rfl) (by kernel_rfl) (by omega) (by omega) ⟨(sc hB), (hX.sn), by simpa using (hy.set 0 (.int .i64 12)), (hz.sn), (hw_.sn), (hG5.sl), by simp; omega⟩ ?k0 ?k1 ?k2 ?k3 ?hQ
  case k0 | k1 | k2 | k3 =>
   intros
   rename_i k
   have kc_ := k.cell
   have kf_ := k.frozen
   refine OpGoes.go fun K hK => ?_
   go_simp
   first | exact hK _ _ ⟨rfl, rfl⟩ | exact hK _ _ rfl
  case hQ =>
   clear ky fy kX hB hx hy hz hw_ hG5 hX
   generalize hq2 : (⟨12, v, r, t, seen, tr, sp, ag, re⟩ : Hd) = h2 at *
   clear hq2
   intro σ W' _ hB k7 k8 hG _
   replace k7 := k7.cell
   replace k8 := k8.cell
   simp only [lexAll]
   go_simp
   go_step
   go_wp2
   refine bodyPost_ret (v := .tuple #[stV q.1 A5 n5 c5, hdV h2]) (by simp [results, Tryz.results123, go_sem, k7, k8, stV, hdV]) rfl ⟨A5, n5, c5, by rw [HV.out], ?_, hB⟩
   rw [HV.out]
   exact hG.cut.mono (Nat.zero_le _) (Nat.le_refl _)
set_option maxRecDepth 100000 in
set_option maxHeartbeats 4000000 in
theorem ips_12 (s : St) (A : Option Addr) (n cap lo hi B : Nat) (a0 a1 a2 a3 a4 a5 : Addr) (v r t : Int) (seen : Pl) (tr sp : Int) (ag : Bool) (re : Int) (w : World) (hs : RgsW lo hi w A n cap s.rs) (hh : hi ≤ w.heap.size) (hok : stOk s = true) (hrb : ringB s r = true) (hE : Snt B a0 a1 a2 a3 a4 a5 w) :
  Calls Tryz.prog 124 #[stV s A n cap, hdV ⟨12, v, r, t, seen, tr, sp, ag, re⟩] w (RetSH (PH (make12 s ⟨12, v, r, t, seen, tr, sp, ag, re⟩)) w) := by
 have HOK := Lib.hid hok
 have HRB := Lib.hid hrb
 have HLN := Lib.hid hs.1
 have HNT := Lib.hid (stOk_neat hok)
 obtain ⟨z0, z1, z2⟩ := ringB_at HLN.out hrb
 clear hok hrb
 unfold stV hdV
 dsimp only
 go_enter Tryz.func124, Tryz.ntmps124
 go_upto_region 1 with fail
 refine wp_abs (fun W => Below w.heap.size w W ∧ BoxAt W w.heap.size (aS s A n cap) 32 ∧ BoxAt W (w.heap.size + 1) (dH 12 v r t seen tr sp ag re) 35 ∧ BoxAt W (w.heap.size + 1 + 1) zS 32 ∧ BoxAt W (w.heap.size + 1 + 1 + 1) zH 35) ⟨(((((Below.refl _ _).alloc (Nat.le_refl _) _).alloc (by simp) _).alloc (by simp; omega) _).alloc (by simp; omega) _), (((BoxAt.new _ _ _).alloc _).alloc _).alloc _, ((BoxAt.new' (by simp)).alloc _).alloc _, (BoxAt.new' (by simp)).alloc _, BoxAt.new' (by simp)⟩ ?_
 rintro W0 ⟨hB, hx, hy, hz, hw_⟩
 have lw0 := hw_.lt
 have hs0 := hs.below hB hh
 have kx := hx.cell
 have ky := hy.cell
 have fy := hy.frozen
 obtain ⟨e0, e1, ⟨e2, n2_⟩, ⟨e3, n3_⟩, ⟨e4, n4_⟩, e5, n5_⟩ := hE.below hB
 go_wp2_with fail
 clear kx ky fy
 refine (iswing_any s A n cap lo hi B a0 a1 a4 true r sp _ hs0 (Nat.le_trans hh hB.size) e0 e1 e4 n4_ (by have := HNT.out.2.1; have := HLN.out; omega) HNT.out.len).mono ?_
 rintro e w1 ⟨A5, n5, c5, rfl, hG5, hb5⟩
 replace hG5 := hG5.toW
 replace hx := hx.below hb5 hx.lt
 replace hy := hy.below hb5 hy.lt
 replace hz := hz.below hb5 hz.lt
 replace hw_ := hw_.below hb5 hw_.lt
 have h5 := hb5.size
 replace hB := bstep hB hB.size hb5
 clear hb5
 generalize hq5 : swing s true r sp = q at *
 have HQ5 := Lib.hid hq5; clear hq5
 unfold stV
 go_upto_region 2 with fail
 refine wp_abs (fun W' => Below w.heap.size w W' ∧ BoxAt W' w.heap.size (aS s A n cap) 32 ∧ BoxAt W' (w.heap.size + 1) (dH 12 v r t seen tr sp ag re) 35 ∧ BoxAt W' (w.heap.size + 1 + 1) zS 32 ∧ BoxAt W' (w.heap.size + 1 + 1 + 1) zH 35 ∧ BoxAt W' w1.heap.size (aS q.1 A5 n5 c5) 32 ∧ RgsW W0.heap.size w1.heap.size W' A5 n5 c5 q.1.rs) ⟨hB.alloc hB.size _, hx.alloc _, hy.alloc _, hz.alloc _, hw_.alloc _, BoxAt.new _ _ _, hG5.al (Nat.le_refl _) _⟩ ?_
 have h54 : w.heap.size + 4 ≤ W0.heap.size := by omega
 generalize w1.heap.size = X at *
 generalize W0.heap.size = P5 at *
 clear hB hx hy hz hw_ hG5 e0 e1 e2 e3 e4 e5
 rintro W2 ⟨hB, hx, hy, hz, hw_, hX, hG5⟩
 have lX := hX.lt
 have ky := hy.cell
 have fy := hy.frozen
 have kX := hX.cell
 go_upto_region 3 with fail
 have HV := Lib.hid (show PH (make12 s ⟨12, v, r, t, seen, tr, sp, ag, re⟩) = (q.1, (⟨12, v, r, t, seen, tr, (-1), ag, re⟩ : Hd).rest 1) by rw [← HQ5.out]; rfl)
 refine ret5 w 1 q.1 P5 X A5 n5 c5 (⟨12, v, r, t, seen, tr, (-1), ag, re⟩ : Hd) X (w.heap.size + 1) (by kernel_rfl) (by kernel_rfl) (by kernel_rfl) (by kernel_rfl) (by kernel_rfl) (by omega) (by omega) ⟨(sc hB), (hX.sn), by simpa using (hy.set 9 (.int .i64 (-1))), (hz.sn), (hw_.sn), (hG5.sl), by simp; omega⟩ ?k0 ?k1 ?k2 ?k3 ?k4 ?hQ
 case k0 | k1 | k3 | k4 =>
  intros
  rename_i k
  have kc_ := k.cell
  have kf_ := k.frozen
  refine OpGoes.go fun K hK => ?_
  go_simp
  first | exact hK _ _ ⟨rfl, rfl⟩ | exact hK _ _ rfl
 case k2 =>
  intros
  refine OpGoes.go fun K hK => ?_
  go_simp
  refine (irest_any (⟨12, v, r, t, seen, tr, (-1), ag, re⟩ : Hd) 1 _).mono ?_
  rintro e w1 ⟨rfl, hb1⟩
  exact ⟨_, rfl, hK _ _ ⟨rfl, hb1⟩⟩
 case hQ =>
  clear ky fy kX hB hx hy hz hw_ hG5 hX
  generalize hq2 : (⟨12, v, r, t, seen, tr, (-1), ag, re⟩ : Hd) = h2 at *
  clear hq2
  intro σ W' _ hB k7 k8 hG _
  replace k7 := k7.cell
  replace k8 := k8.cell
  simp only [lexAll]
  go_simp
  go_step
  go_wp2
  refine bodyPost_ret (v := .tuple #[stV q.1 A5 n5 c5, hdV (h2.rest 1)]) (by simp [results, Tryz.results124, go_sem, k7, k8, stV, hdV, Hd.rest, Hd.zero]) rfl ⟨A5, n5, c5, by rw [HV.out], ?_, hB⟩
  rw [HV.out]
  exact hG.cut.mono (Nat.zero_le _) (Nat.le_refl _)
set_option maxRecDepth 100000 in
set_option maxHeartbeats 4000000 in
theorem ips_10a (s : St) (A : Option Addr) (n cap lo hi B : Nat) (a0 a1 a2 a3 a4 a5 : Addr) (v r t : Int) (seen : Pl) (tr sp : Int) (ag : Bool) (re : Int) (w : World) (hs : RgsW lo hi w A n cap s.rs) (hh : hi ≤ w.heap.size) (hok : stOk s = true) (hrb : ringB s r = true) (hE : Snt B a0 a1 a2 a3 a4 a5 w) :
  Calls Tryz.prog 122 #[stV s A n cap, hdV ⟨10, v, r, t, seen, tr, -1, ag, re⟩] w (RetSH (PH (make10 s ⟨10, v, r, t, seen, tr, -1, ag, re⟩)) w) := by
 have HOK := Lib.hid hok
 have HRB := Lib.hid hrb
 have HLN := Lib.hid hs.1
 have HNT := Lib.hid (stOk_neat hok)
 obtain ⟨z0, z1, z2⟩ := ringB_at HLN.out hrb
 clear hok hrb
 unfold stV hdV
 dsimp only
 go_enter Tryz.func122, Tryz.ntmps122
 go_upto_region 1 with fail
 refine wp_abs (fun W => Below w.heap.size w W ∧ BoxAt W w.heap.size (aS s A n cap) 32 ∧ BoxAt W (w.heap.size + 1) (dH 10 v r t seen tr (-1) ag re) 35 ∧ BoxAt W (w.heap.size + 1 + 1) zS 32 ∧ BoxAt W (w.heap.size + 1 + 1 + 1) zH 35) ⟨(((((Below.refl _ _).alloc (Nat.le_refl _) _).alloc (by simp) _).alloc (by simp; omega) _).alloc (by simp; omega) _), (((BoxAt.new _ _ _).alloc _).alloc _).alloc _, ((BoxAt.new' (by simp)).alloc _).alloc _, (BoxAt.new' (by simp)).alloc _, BoxAt.new' (by simp)⟩ ?_
 rintro W0 ⟨hB, hx, hy, hz, hw_⟩
 have lw0 := hw_.lt
 have hs0 := hs.below hB hh
 have kx := hx.cell
 have ky := hy.cell
 have fy := hy.frozen
 obtain ⟨e0, e1, ⟨e2, n2_⟩, ⟨e3, n3_⟩, ⟨e4, n4_⟩, e5, n5_⟩ := hE.below hB
 go_wp2_with fail
 clear kx ky fy
 refine (iaddRing_any s A n cap lo hi B a0 a1 a5 v _ hs0 (Nat.le_trans hh hB.size) e0 e1 e5 n5_ (by have := HNT.out.2.1; have := HLN.out; omega) HNT.out.len).mono ?_
 rintro e w1 ⟨A5, n5, c5, rfl, hG5, hb5⟩
 replace hG5 := hG5.toW
 replace hx := hx.below hb5 hx.lt
 replace hy := hy.below hb5 hy.lt
 replace hz := hz.below hb5 hz.lt
 replace hw_ := hw_.below hb5 hw_.lt
 have h5 := hb5.size
 replace hB := bstep hB hB.size hb5
 clear hb5
 generalize hq5 : addRing s v = q at *
 have HQ5 := Lib.hid hq5
 have hq6 := addRing_two (s := s) (v := v)
 rw [hq5] at hq6
 have HS1 := Lib.hid (fun h => by have := addRing_no HOK.out (v := v) (by rw [hq5]; exact h); rw [hq5] at this; exact this : q.2 < 0 → q.1 = s)
 clear hq5
 unfold stV
 go_upto_region 5 with fail
 refine wp_abs (fun W' => Below w.heap.size w W' ∧ BoxAt W' w.heap.size (aS s A n cap) 32 ∧ BoxAt W' (w.heap.size + 1) (dH 10 v r t seen tr (-1) ag re) 35 ∧ BoxAt W' (w.heap.size + 1 + 1) zS 32 ∧ BoxAt W' (w.heap.size + 1 + 1 + 1) zH 35 ∧ BoxAt W' w1.heap.size (aS q.1 A5 n5 c5) 32 ∧ RgsW W0.heap.size w1.heap.size W' A5 n5 c5 q.1.rs) ⟨hB.alloc hB.size _, hx.alloc _, hy.alloc _, hz.alloc _, hw_.alloc _, BoxAt.new _ _ _, hG5.al (Nat.le_refl _) _⟩ ?_
 have h54 : w.heap.size + 4 ≤ W0.heap.size := by omega
 generalize w1.heap.size = X at *
 generalize W0.heap.size = P5 at *
 clear hB hx hy hz hw_ hG5 e0 e1 e2 e3 e4 e5
 rintro W2 ⟨hB, hx, hy, hz, hw_, hX, hG5⟩
 have lX := hX.lt
 have ky := hy.cell
 have fy := hy.frozen
 have kX := hX.cell
 by_cases hq2 : q.2 = -1
 ·
  have HQ2 := Lib.hid hq2
  go_upto_region 6 with fail
  have HV := Lib.hid (show PH (make10 s ⟨10, v, r, t, seen, tr, -1, ag, re⟩) = (q.1, (⟨10, v, r, t, seen, tr, -1, ag, re⟩ : Hd).rest 2) by unfold PH make10; dsimp only; rw [if_neg (show ¬ (0 : Int) ≤ -1 by omega), HQ5.out, if_pos (show q.2 < 0 by omega), HS1.out (by omega)])
  refine ret5 w 2 q.1 P5 X A5 n5 c5 (⟨10, v, r, t, seen, tr, -1, ag, re⟩ : Hd) X (w.heap.size + 1) (by kernel_rfl) (by kernel_rfl) (by kernel_rfl) (by kernel_rfl) (by kernel_rfl) (by omega) (by omega) ⟨hB, hX, hy, hz, hw_, hG5, by omega⟩ ?k0 ?k1 ?k2 ?k3 ?k4 ?hQ
  case k0 | k1 | k3 | k4 =>
   intros
   rename_i k
   have kc_ := k.cell
   have kf_ := k.frozen
   refine OpGoes.go fun K hK => ?_
   go_simp
   first | exact hK _ _ ⟨rfl, rfl⟩ | exact hK _ _ rfl
  case k2 =>
   intros
   refine OpGoes.go fun K hK => ?_
   go_simp
   refine (irest_any (⟨10, v, r, t, seen, tr, -1, ag, re⟩ : Hd) 2 _).mono ?_
   rintro e w1 ⟨rfl, hb1⟩
   exact ⟨_, rfl, hK _ _ ⟨rfl, hb1⟩⟩
  case hQ =>
   clear ky fy kX hB hx hy hz hw_ hG5 hX
   generalize hq2 : (⟨10, v, r, t, seen, tr, -1, ag, re⟩ : Hd) = h2 at *
   clear hq2
   intro σ W' _ hB k7 k8 hG _
   replace k7 := k7.cell
   replace k8 := k8.cell
   simp only [lexAll]
   go_simp
   go_step
   go_wp2
   refine bodyPost_ret (v := .tuple #[stV q.1 A5 n5 c5, hdV (h2.rest 2)]) (by simp [results, Tryz.results122, go_sem, k7, k8, stV, hdV, Hd.rest, Hd.zero]) rfl ⟨A5, n5, c5, by rw [HV.out], ?_, hB⟩
   rw [HV.out]
   exact hG.cut.mono (Nat.zero_le _) (Nat.le_refl _)
 ·
  have HQ2 := Lib.hid hq2
  go_upto_region 8 with fail
  have HV := Lib.hid (show PH (make10 s ⟨10, v, r, t, seen, tr, -1, ag, re⟩) = (q.1, (⟨11, v, r, t, seen, tr, q.2, ag, re⟩ : Hd)) by unfold PH make10; dsimp only; rw [if_neg (show ¬ (0 : Int) ≤ -1 by omega), HQ5.out, if_neg (show ¬ q.2 < 0 by omega)])
  refine ret4 w q.1 P5 X A5 n5 c5 (⟨11, v, r, t, seen, tr, q.2, ag, re⟩ : Hd) X (w.heap.size + 1) (by kernel_rfl) (by kernel_rfl) (by kernel_rfl) (by kernel_rfl) (by omega) (by omega) ⟨(sc (sc hB)), ((hX.sn).sn), by simpa using ((hy.set 9 (.int .i64 q.2)).set 0 (.int .i64 11)), ((hz.sn).sn), ((hw_.sn).sn), ((hG5.sl).sl), by simp; omega⟩ ?k0 ?k1 ?k2 ?k3 ?hQ
  case k0 | k1 | k2 | k3 =>
   intros
   rename_i k
   have kc_ := k.cell
   have kf_ := k.frozen
   refine OpGoes.go fun K hK => ?_
   go_simp
   first | exact hK _ _ ⟨rfl, rfl⟩ | exact hK _ _ rfl
  case hQ =>
   clear ky fy kX hB hx hy hz hw_ hG5 hX
   generalize hq2 : (⟨11, v, r, t, seen, tr, q.2, ag, re⟩ : Hd) = h2 at *
   clear hq2
   intro σ W' _ hB k7 k8 hG _
   replace k7 := k7.cell
   replace k8 := k8.cell
   simp only [lexAll]
   go_simp
   go_step
   go_wp2
   refine bodyPost_ret (v := .tuple #[stV q.1 A5 n5 c5, hdV h2]) (by simp [results, Tryz.results122, go_sem, k7, k8, stV, hdV]) rfl ⟨A5, n5, c5, by rw [HV.out], ?_, hB⟩
   rw [HV.out]
   exact hG.cut.mono (Nat.zero_le _) (Nat.le_refl _)
def imkV (s q : St) (N n cap : Nat) (A : Option Addr) (v r t : Int) (seen : Pl) (tr sp : Int) (ag : Bool) (re : Int) : List Sl := [.v (.agg (aS s A n cap)),
 .v (.pointer (some ⟨(N + 1), 9, none⟩)),
 .v sp,
 .v (.pointer (some ⟨(N + 1), 1, none⟩)),
 .v v,
 .e fun σ w => ∃ (A5 : Option Addr) (n5 c5 : Nat), σ 5 = .agg (aS q A5 n5 c5) ∧ RgsW 0 w.heap.size w A5 n5 c5 q.rs,
 .v (.agg (dH 11 v r t seen tr sp ag re)),
 .e fun σ w => ∃ (A5 : Option Addr) (n5 c5 : Nat), BoxAt w (N + 1 + 1) (aS q A5 n5 c5) 32 ∧ RgsW 0 w.heap.size w A5 n5 c5 q.rs,
 .e fun σ w => BoxAt w (N + 1 + 1 + 1) (dH 11 v r t seen tr sp ag re) 35]
set_option maxRecDepth 100000 in
set_option maxHeartbeats 4000000 in
theorem ips_10b (s : St) (A : Option Addr) (n cap lo hi B : Nat) (a0 a1 a2 a3 a4 a5 : Addr) (v r t : Int) (seen : Pl) (tr sp : Int) (ag : Bool) (re : Int) (w : World) (hs : RgsW lo hi w A n cap s.rs) (hh : hi ≤ w.heap.size) (hok : stOk s = true) (hrb : ringB s r = true) (hE : Snt B a0 a1 a2 a3 a4 a5 w) (hsp : ringB s sp = true) (hv : valB v = true) :
  Calls Tryz.prog 122 #[stV s A n cap, hdV ⟨10, v, r, t, seen, tr, sp, ag, re⟩] w (RetSH (PH (make10 s ⟨10, v, r, t, seen, tr, sp, ag, re⟩)) w) := by
 have HOK := Lib.hid hok
 have HRB := Lib.hid hrb
 have HLN := Lib.hid hs.1
 have HNT := Lib.hid (stOk_neat hok)
 obtain ⟨z0, z1, z2⟩ := ringB_at HLN.out hrb
 clear hok hrb
 obtain ⟨y0, y1, y2⟩ := ringB_at HLN.out hsp
 obtain ⟨q, hq⟩ : ∃ q, (s.turn sp fun _ => Rg.seed s.rd.toNat v) = q := ⟨_, rfl⟩
 have HSN := Lib.hid (show ∀ W : World, Below w.heap.size w W → Calls Tryz.prog 142 #[stV s A n cap, sp, v] W (RetS0 q W) from fun W hBW => by
  have := iseedNew_any s A n cap lo hi sp v W (hs.below hBW hh) (Nat.le_trans hh hBW.size) HOK.out hsp hv
  rw [hq] at this
  exact this)
 unfold RetS0 stV at HSN
 have HV := Lib.hid (show PH (make10 s ⟨10, v, r, t, seen, tr, sp, ag, re⟩) = (q, (⟨11, v, r, t, seen, tr, sp, ag, re⟩ : Hd)) by simp [PH, make10, hsp, y0, hq])
 have hs1 : ¬ sp = -1 := by omega
 clear hsp hq
 unfold stV hdV
 dsimp only
 go_enter Tryz.func122, Tryz.ntmps122
 go_upto_region 1 with fail
 refine wp_abs (fun W => Below w.heap.size w W ∧ BoxAt W w.heap.size (aS s A n cap) 32 ∧ BoxAt W (w.heap.size + 1) (dH 10 v r t seen tr sp ag re) 35 ∧ BoxAt W (w.heap.size + 1 + 1) zS 32 ∧ BoxAt W (w.heap.size + 1 + 1 + 1) zH 35) ⟨(((((Below.refl _ _).alloc (Nat.le_refl _) _).alloc (by simp) _).alloc (by simp; omega) _).alloc (by simp; omega) _), (((BoxAt.new _ _ _).alloc _).alloc _).alloc _, ((BoxAt.new' (by simp)).alloc _).alloc _, (BoxAt.new' (by simp)).alloc _, BoxAt.new' (by simp)⟩ ?_
 rintro W0 ⟨hB, hx, hy, hz, hw_⟩
 have lw0 := hw_.lt
 have hs0 := hs.below hB hh
 have kx := hx.cell
 have ky := hy.cell
 have fy := hy.frozen
 go_upto_region 3 with fail
 refine wp_abs (fun W' => Below w.heap.size w W' ∧ BoxAt W' w.heap.size (aS s A n cap) 32 ∧ BoxAt W' (w.heap.size + 1) (dH 11 v r t seen tr sp ag re) 35 ∧ BoxAt W' (w.heap.size + 1 + 1) zS 32 ∧ BoxAt W' (w.heap.size + 1 + 1 + 1) zH 35) ⟨sc hB, hx.sn, by simpa using hy.set 0 (.int .i64 11), hz.sn, hw_.sn⟩ ?_
 clear kx ky fy hB hx hy hz hw_ hs0
 rintro W1 ⟨hB, hx, hy, hz, hw_⟩
 have lw1 := hw_.lt
 refine wp_region2v (fun w w' => Below w.heap.size w w') (fun _ _ h => h.size) (fun _ => Below.refl _ _) (fun L W' => Below w.heap.size w W' ∧ BoxAt W' w.heap.size (aS s A n cap) 32 ∧ BoxAt W' (w.heap.size + 1) (dH 11 v r t seen tr sp ag re) 35 ∧ (∃ x0 x1 x2 x3 x4, BoxAt W' (w.heap.size + 1 + 1) #[x0, x1, x2, x3, x4] 32) ∧ (L 7 = false → BoxAt W' (w.heap.size + 1 + 1) zS 32) ∧ (∃ x0 x1 x2 x3 x4 x5 x6 x7 x8 x9 x10 x11, BoxAt W' (w.heap.size + 1 + 1 + 1) #[x0, x1, x2, x3, x4, x5, x6, x7, x8, x9, x10, x11] 35) ∧ (L 8 = false → BoxAt W' (w.heap.size + 1 + 1 + 1) zH 35)) (imkV s q w.heap.size n cap A v r t seen tr sp ag re) (fun j => [0, 0, 0, 0, 0, 0, 0, 1, 1].getD j 0) [] (by kernel_rfl) (by kernel_rfl) ?_ ?_ ?_
  (.still rfl ?a0 <| .still rfl ?a1 <| .still rfl ?a2 <| .still rfl ?a3 <| .still rfl ?a4 <| .grow rfl ?a5 <| .still rfl ?a6 <| .store rfl ?a7 <| .store rfl ?a8 <| .nil) ?_ ?_
 · exact ⟨fun _ _ _ h ⟨A5, n5, c5, e, hp⟩ => ⟨A5, n5, c5, (h 5 (List.mem_singleton.2 rfl)).symm.trans e, hp⟩, fun _ _ _ _ h => h, fun _ _ _ _ h => h, trivial⟩
 · exact ⟨fun σ w w' hb ⟨A5, n5, c5, e, hp⟩ => ⟨A5, n5, c5, e, (hp.below hb (Nat.le_refl _)).mono (Nat.le_refl _) hb.size⟩, fun σ w w' hb ⟨A5, n5, c5, hx, hp⟩ => ⟨A5, n5, c5, hx.below hb hx.lt, (hp.below hb (Nat.le_refl _)).mono (Nat.le_refl _) hb.size⟩, fun σ w w' hb hR => hR.below hb hR.lt, trivial⟩
 · exact ⟨hB.drew, hx, hy, ⟨_, _, _, _, _, hz⟩, fun _ => hz, ⟨_, _, _, _, _, _, _, _, _, _, _, _, hw_⟩, fun _ => hw_⟩
 case a0 =>
  go_light
  intro L σ W' hcl hL hC hw
  have ks := hC.2.1.cell
  clear hw hcl hL hC
  refine OpGoes.go fun K hK => ?_
  go_simp
  exact hK _ _ ⟨rfl, rfl⟩
 case a1 | a3 =>
  go_light
  intro L σ W' hcl hL hC hw
  clear hw hcl hL hC
  refine OpGoes.go fun K hK => ?_
  go_simp
  exact hK _ _ ⟨rfl, rfl⟩
 case a2 | a4 | a6 =>
  go_light
  intro L σ W' hcl hL hC hw
  try have e1 := wT hw 1 rfl
  try have e3 := wT hw 3 rfl
  have kh := hC.2.2.1.cell
  clear hw hcl hL hC
  refine OpGoes.go fun K hK => ?_
  go_simp
  exact hK _ _ ⟨rfl, rfl⟩
 case a5 =>
  go_light
  intro L σ W' hcl hL hC hw
  have e0 := wV hw 0 rfl
  have e2 := wV hw 2 rfl
  have e4 := wV hw 4 rfl
  clear hw
  have HC := Lib.hid hC
  clear hC
  clear hcl hL
  refine OpGoes.go fun K hK => ?_
  go_simp
  obtain ⟨hB, hx, hy, ⟨_, _, _, _, _, hz⟩, hz_o, ⟨_, _, _, _, _, _, _, _, _, _, _, _, hw_⟩, hw__o⟩ := HC.out
  refine (HSN.out _ hB).mono ?_
  rintro e w1 ⟨A5, n5, c5, rfl, hG5, hb1⟩
  exact ⟨_, rfl, hK _ _ ⟨⟨bstep hB hB.size hb1, hx.below hb1 hx.lt, hy.below hb1 hy.lt, ⟨_, _, _, _, _, hz.below hb1 hz.lt⟩, fun h => (hz_o (by simpa [upd] using h)).below hb1 (hz_o (by simpa [upd] using h)).lt, ⟨_, _, _, _, _, _, _, _, _, _, _, _, hw_.below hb1 hw_.lt⟩, fun h => (hw__o (by simpa [upd] using h)).below hb1 (hw__o (by simpa [upd] using h)).lt⟩, ⟨A5, n5, c5, rfl, hG5⟩, hb1⟩⟩
 case a7 =>
  go_light
  intro L σ W' hcl hL hC hw hne
  obtain ⟨A5, n5, c5, e5, hp5⟩ := wE hw 5 rfl
  clear hw hne
  have HC := Lib.hid hC
  obtain ⟨hB, hx, hy, ⟨_, _, _, _, _, hz⟩, hz_o, ⟨_, _, _, _, _, _, _, _, _, _, _, _, hw_⟩, hw__o⟩ := hC
  clear hcl hL
  have kc_ := hz.cell
  have kf_ := hz.frozen
  clear hB hx hy hz hz_o hw_ hw__o
  refine OpGoes.go fun K hK => ?_
  go_simp
  obtain ⟨hB, hx, hy, ⟨_, _, _, _, _, hz⟩, hz_o, ⟨_, _, _, _, _, _, _, _, _, _, _, _, hw_⟩, hw__o⟩ := HC.out
  have hset := sets_all (us := (aS q A5 n5 c5)) hz rfl
  refine hK undef (setCells W' (w.heap.size + 1 + 1) 0 (aS q A5 n5 c5)) ⟨⟨(Below.setCells (by omega) _ 0 hB), (BoxAt.sets_ne _ 0 hx (by omega)), (BoxAt.sets_ne _ 0 hy (by omega)), ⟨_, _, _, _, _, hset⟩, fun h => absurd h (by simp [upd]), ⟨_, _, _, _, _, _, _, _, _, _, _, _, (BoxAt.sets_ne _ 0 hw_ (by omega))⟩, fun h => (BoxAt.sets_ne _ 0 (hw__o (by simpa [upd] using h)) (by omega))⟩, ⟨A5, n5, c5, hset, ((RgsW.setsT hp5 hz (by decide) (by decide) _ 0).mono (Nat.le_refl _) (Nat.le_of_eq (sets_size _ _ _).symm))⟩, Nat.le_of_eq (sets_size _ _ _).symm, keepV ?_⟩
  exact ⟨fun _ _ ⟨A5_x, n5_x, c5_x, e, hp⟩ => ⟨A5_x, n5_x, c5_x, e, ((RgsW.setsT hp hz (by decide) (by decide) _ 0).mono (Nat.le_refl _) (Nat.le_of_eq (sets_size _ _ _).symm))⟩, fun h => absurd rfl h, fun _ _ hR => (BoxAt.sets_ne _ 0 hR (by omega)), trivial⟩
 case a8 =>
  go_light
  intro L σ W' hcl hL hC hw hne
  have e6 := wV hw 6 rfl
  clear hw hne
  have HC := Lib.hid hC
  obtain ⟨hB, hx, hy, ⟨_, _, _, _, _, hz⟩, hz_o, ⟨_, _, _, _, _, _, _, _, _, _, _, _, hw_⟩, hw__o⟩ := hC
  clear hcl hL
  have kc_ := hw_.cell
  have kf_ := hw_.frozen
  clear hB hx hy hz hz_o hw_ hw__o
  refine OpGoes.go fun K hK => ?_
  go_simp
  obtain ⟨hB, hx, hy, ⟨_, _, _, _, _, hz⟩, hz_o, ⟨_, _, _, _, _, _, _, _, _, _, _, _, hw_⟩, hw__o⟩ := HC.out
  have hset := sets_all (us := (dH 11 v r t seen tr sp ag re)) hw_ rfl
  refine hK undef (setCells W' (w.heap.size + 1 + 1 + 1) 0 (dH 11 v r t seen tr sp ag re)) ⟨⟨(Below.setCells (by omega) _ 0 hB), (BoxAt.sets_ne _ 0 hx (by omega)), (BoxAt.sets_ne _ 0 hy (by omega)), ⟨_, _, _, _, _, (BoxAt.sets_ne _ 0 hz (by omega))⟩, fun h => (BoxAt.sets_ne _ 0 (hz_o (by simpa [upd] using h)) (by omega)), ⟨_, _, _, _, _, _, _, _, _, _, _, _, hset⟩, fun h => absurd h (by simp [upd])⟩, hset, Nat.le_of_eq (sets_size _ _ _).symm, keepV ?_⟩
  exact ⟨fun _ _ ⟨A5_x, n5_x, c5_x, e, hp⟩ => ⟨A5_x, n5_x, c5_x, e, ((RgsW.setsT hp hw_ (by decide) (by decide) _ 0).mono (Nat.le_refl _) (Nat.le_of_eq (sets_size _ _ _).symm))⟩, fun _ _ ⟨A5, n5, c5, hx, hp⟩ => ⟨A5, n5, c5, (BoxAt.sets_ne _ 0 hx (by omega)), ((RgsW.setsT hp hw_ (by decide) (by decide) _ 0).mono (Nat.le_refl _) (Nat.le_of_eq (sets_size _ _ _).symm))⟩, fun h => absurd rfl h, trivial⟩
 ·
  intro L L' W' hLL hC
  obtain ⟨hB, hx, hy, ⟨_, _, _, _, _, hz⟩, hz_o, ⟨_, _, _, _, _, _, _, _, _, _, _, _, hw_⟩, hw__o⟩ := hC
  exact ⟨hB, hx, hy, ⟨_, _, _, _, _, hz⟩, fun h => hz_o (hLL _ h), ⟨_, _, _, _, _, _, _, _, _, _, _, _, hw_⟩, fun h => hw__o (hLL _ h)⟩
 ·
  intro σ L W' hall hC hRR
  obtain ⟨hB, hx, hy, ⟨_, _, _, _, _, hz⟩, hz_o, ⟨_, _, _, _, _, _, _, _, _, _, _, _, hw_⟩, hw__o⟩ := hC
  obtain ⟨A5, n5, c5, s7, hp7⟩ := dE hRR 7 rfl
  have s8 := dE hRR 8 rfl
  clear hRR
  simp only [lexAll]
  go_simp
  go_step
  have k7 := s7.cell
  have k8 := s8.cell
  go_wp2
  refine bodyPost_ret (v := .tuple #[stV q A5 n5 c5, hdV (⟨11, v, r, t, seen, tr, sp, ag, re⟩ : Hd)]) (by simp [results, Tryz.results122, go_sem, k7, k8, stV, hdV]) rfl ⟨A5, n5, c5, by rw [HV.out], ?_, hB⟩
  rw [HV.out]
  exact hp7.mono (Nat.zero_le _) (Nat.le_refl _)
end Go.Proofs.YthpckpnlohfcbaaGreatDoor
namespace Go.Proofs.YthpckpnlohfcbaaGreatDoor
set_option linter.unusedSimpArgs false
set_option linter.unusedVariables false
open Go.RowKit
set_option linter.unusedVariables false
attribute [local go_sem] OpUpon
attribute [local go_sem ↓] Go.wp_at_zero Go.wp_at_succ
def ia5V (s : St) (N b n cap pb X : Nat) (rg : Rg) (p : Pl) (v r t : Int) (seen : Pl) (tr sp : Int) (ag : Bool) (re : Int) (n' cap' : Nat) : List Sl := [.v (.pointer (some ⟨X, 4, none⟩)),
 .v (.slice (some ⟨pb, 0, none⟩) n' cap'),
 .v (.agg #[rg.h, rg.t, rg.c, rg.x, .slice (some ⟨pb, 0, none⟩) n' cap']),
 .v (.pointer (some ⟨(N + 1), 3, none⟩)),
 .v t,
 .v (.int .i64 (t % s.rd)),
 .v (.pointer (some ⟨pb, (t % s.rd).toNat * 4, none⟩)),
 .v (.agg (cP p)),
 .v (.pointer (some ⟨(N + 1), 4, none⟩)),
 .e fun σ w => BoxAt w (N + 1) (dH 5 v r t p tr sp ag re) 35]
set_option maxRecDepth 100000 in
set_option maxHeartbeats 4000000 in
theorem ips_5 (s : St) (A : Option Addr) (n cap lo hi B : Nat) (a0 a1 a2 a3 a4 a5 : Addr) (v r t : Int) (seen : Pl) (tr sp : Int) (ag : Bool) (re : Int) (w : World) (hs : RgsW lo hi w A n cap s.rs) (hh : hi ≤ w.heap.size) (hok : stOk s = true) (hrb : ringB s r = true) (hE : Snt B a0 a1 a2 a3 a4 a5 w) (ht : 0 ≤ t ∧ t ≤ 1000000) :
  Calls Tryz.prog 117 #[stV s A n cap, hdV ⟨5, v, r, t, seen, tr, sp, ag, re⟩] w (RetSH (PH (put5 s ⟨5, v, r, t, seen, tr, sp, ag, re⟩)) w) := by
 have HOK := Lib.hid hok
 have HRB := Lib.hid hrb
 have HLN := Lib.hid hs.1
 have HNT := Lib.hid (stOk_neat hok)
 obtain ⟨z0, z1, z2⟩ := ringB_at HLN.out hrb
 clear hok hrb
 obtain ⟨t0, t1⟩ := ht
 unfold stV hdV
 dsimp only
 go_enter Tryz.func117, Tryz.ntmps117
 go_upto_region 1 with fail
 refine wp_abs (fun W => Below w.heap.size w W ∧ BoxAt W w.heap.size (aS s A n cap) 32 ∧ BoxAt W (w.heap.size + 1) (dH 5 v r t seen tr sp ag re) 35 ∧ BoxAt W (w.heap.size + 1 + 1) zS 32 ∧ BoxAt W (w.heap.size + 1 + 1 + 1) zH 35) ⟨(((((Below.refl _ _).alloc (Nat.le_refl _) _).alloc (by simp) _).alloc (by simp; omega) _).alloc (by simp; omega) _), (((BoxAt.new _ _ _).alloc _).alloc _).alloc _, ((BoxAt.new' (by simp)).alloc _).alloc _, (BoxAt.new' (by simp)).alloc _, BoxAt.new' (by simp)⟩ ?_
 rintro W0 ⟨hB, hx, hy, hz, hw_⟩
 have lw0 := hw_.lt
 have hs0 := hs.below hB hh
 have kx := hx.cell
 have ky := hy.cell
 have fy := hy.frozen
 obtain ⟨b, rg, A', n', cap', rfl, hlb, hbh, hri, c0, c1', c2, c3, c4, hpw⟩ := hs0.at_ z2
 have HAT := Lib.hid (St.at_some (s := s) (z := r) hri)
 have hrd := stOk_rd HOK.out
 have hrp := stOk_places HOK.out rg (List.mem_of_getElem? hri)
 have hn' : n' = rg.ps.length := hpw.1.symm
 obtain ⟨pb, rfl, hpbh, hpo⟩ := hpw.2 (by omega)
 have hm0 := Int.emod_nonneg t (show s.rd ≠ 0 by omega)
 have hm1 := Int.emod_lt_of_pos t (show 0 < s.rd by omega)
 have hkl : (t % s.rd).toNat < rg.ps.length := by omega
 obtain ⟨p, hpx⟩ : ∃ p, rg.ps[(t % s.rd).toNat]? = some p := ⟨_, List.getElem?_eq_getElem hkl⟩
 have he : PlE 0 W0 pb ((t % s.rd).toNat * 4) p := PlE.of_cells fun j u hu => Own.cell_ Pl.cs_len hpo hpx hu
 have hc : RgC W0 b r.toNat rg (some ⟨pb, 0, none⟩) n' cap' := ⟨c0, c1', c2, c3, c4⟩
 have hat0 : t % s.rd < (n' : Int) := by omega
 have hbl2 : b < w.heap.size ∧ pb < w.heap.size := by omega
 have hrok := stOk_rgok HOK.out (List.mem_of_getElem? hri)
 have hPR : ∀ W : World, Below w.heap.size w W → PlsR 0 W (some ⟨pb, 0, none⟩) n' rg.ps := fun W hBW => PlsW.r (lo := lo) (hi := hi) ⟨hpw.1, fun _ => ⟨pb, rfl, hpbh, Own.keep hpo (by rw [hBW.block pb (by omega), hB.block pb (by omega)])⟩⟩
 have HPA := Lib.hid (show ∀ W : World, Below w.heap.size w W → Calls Tryz.prog 128 #[rgV rg.h rg.t rg.c rg.x (some ⟨pb, 0, none⟩) n' cap', .int .i64 t] W (RetBelow (.int .i64 (t % s.rd)) W) from fun W hBW => by
  have := iplaceAt_any rg.h rg.t rg.c rg.x (some ⟨pb, 0, none⟩) n' cap' rg.ps t W ((hPR W hBW)) (by omega)
  rw [placeAt_yes (by rw [show rgOk rg.h rg.t rg.c rg.x rg.ps = true from hrok, show noB t = true by simp only [noB, Bool.and_eq_true, decide_eq_true_eq]; omega]; rfl), hrp] at this
  exact this)
 unfold rgV at HPA
 have HLK := Lib.hid (show lookAt s ⟨5, v, r, t, seen, tr, sp, ag, re⟩ = p by simp [lookAt, HAT.out, hpx])
 clear hpx hpw hpo hs0 hn' hrp hri hrok
 go_upto_region 2 with fail
 refine wp_abs (fun W' => Below w.heap.size w W' ∧ BoxAt W' w.heap.size (aS s (some ⟨b, 0, none⟩) n cap) 32 ∧ BoxAt W' (w.heap.size + 1) (dH 5 v r t seen tr sp ag re) 35 ∧ BoxAt W' (w.heap.size + 1 + 1) zS 32 ∧ BoxAt W' (w.heap.size + 1 + 1 + 1) zH 35 ∧ RgC W' b r.toNat rg (some ⟨pb, 0, none⟩) n' cap' ∧ PlE 0 W' pb ((t % s.rd).toNat * 4) p ∧ BoxAt W' W0.heap.size #[rg.h, rg.t, rg.c, rg.x, .slice (some ⟨pb, 0, none⟩) n' cap'] 79) ⟨hB.alloc hB.size _, hx.alloc _, hy.alloc _, hz.alloc _, hw_.alloc _, hc.below ((Below.refl _ _).alloc (Nat.le_refl _) _), he.below ((Below.refl _ _).alloc (Nat.le_refl _) _), BoxAt.new _ _ _⟩ ?_
 obtain ⟨X, hXe⟩ : ∃ X, W0.heap.size = X := ⟨_, rfl⟩
 rw [hXe] at lw0 ⊢
 clear c0 c1' c2 c3 c4 kx ky fy hB hx hy hz hw_ hc he hXe
 rintro W1 ⟨hB, hx, hy, hz, hw_, hc, he, hX⟩
 go_cut [21] (fun _ W' => Below w.heap.size w W' ∧ BoxAt W' w.heap.size (aS s (some ⟨b, 0, none⟩) n cap) 32 ∧ BoxAt W' (w.heap.size + 1) (dH 5 v r t p tr sp ag re) 35 ∧ BoxAt W' (w.heap.size + 1 + 1) zS 32 ∧ BoxAt W' (w.heap.size + 1 + 1 + 1) zH 35)
 case first =>
  refine wp_region2v (fun w w' => Below w.heap.size w w') (fun _ _ h => h.size) (fun _ => Below.refl _ _) (fun L W' => Below w.heap.size w W' ∧ BoxAt W' w.heap.size (aS s (some ⟨b, 0, none⟩) n cap) 32 ∧ BoxAt W' (w.heap.size + 1 + 1) zS 32 ∧ BoxAt W' (w.heap.size + 1 + 1 + 1) zH 35 ∧ RgC W' b r.toNat rg (some ⟨pb, 0, none⟩) n' cap' ∧ PlE 0 W' pb ((t % s.rd).toNat * 4) p ∧ BoxAt W' X #[rg.h, rg.t, rg.c, rg.x, .slice (some ⟨pb, 0, none⟩) n' cap'] 79 ∧ (∃ x0 x1 x2 x3, BoxAt W' (w.heap.size + 1) #[.int .i64 5, v, r, t, x0, x1, x2, x3, tr, sp, ag, re] 35) ∧ (L 9 = false → BoxAt W' (w.heap.size + 1) (dH 5 v r t seen tr sp ag re) 35)) (ia5V s w.heap.size b n cap pb X rg p v r t seen tr sp ag re n' cap') (fun j => [0, 0, 0, 0, 0, 0, 0, 0, 0, 1].getD j 0) [] (by kernel_rfl) (by kernel_rfl) ?_ ?_ ?_
   (.still rfl ?a0 <| .still rfl ?a1 <| .still rfl ?a2 <| .still rfl ?a3 <| .still rfl ?a4 <| .grow rfl ?a5 <| .still rfl ?a6 <| .still rfl ?a7 <| .still rfl ?a8 <| .store rfl ?a9 <| .nil) ?_ ?_
  · exact ⟨fun _ _ _ _ h => h, trivial⟩
  · exact ⟨fun σ w w' hb hR => hR.below hb hR.lt, trivial⟩
  · exact ⟨hB.drew, hx, hz, hw_, hc, he, hX, ⟨_, _, _, _, hy⟩, fun _ => hy⟩
  case a0 | a3 | a6 | a8 =>
   go_light
   intro L σ W' hcl hL hC hw
   try have e1 := wT hw 1 rfl
   try have e5 := wT hw 5 rfl
   clear hw hcl hL hC
   refine OpGoes.go fun K hK => ?_
   go_simp
   exact hK _ _ ⟨rfl, rfl⟩
  case a1 | a2 =>
   go_light
   intro L σ W' hcl hL hC hw
   try have e0 := wT hw 0 rfl
   have kX := hC.2.2.2.2.2.2.1.cell
   clear hw hcl hL hC
   refine OpGoes.go fun K hK => ?_
   go_simp
   exact hK _ _ ⟨rfl, rfl⟩
  case a7 =>
   go_light
   intro L σ W' hcl hL hC hw
   have e6 := wV hw 6 rfl
   have he0 := hC.2.2.2.2.2.1
   obtain ⟨d0, d1, d2, d3⟩ := he0
   clear hw hcl hL hC
   refine OpGoes.go fun K hK => ?_
   go_simp
   exact hK _ _ ⟨rfl, rfl⟩
  case a4 =>
   go_light
   intro L σ W' hcl hL hC hw
   have e3 := wV hw 3 rfl
   have kh := (hC.2.2.2.2.2.2.2.2 (hcl.not (j := 9) (k := 7) (by kernel_rfl) (hcl.not (j := 7) (k := 6) (by kernel_rfl) (hcl.not (j := 6) (k := 5) (by kernel_rfl) (hcl.not (j := 5) (k := 4) (by kernel_rfl) hL))))).cell
   clear hw hcl hL hC
   refine OpGoes.go fun K hK => ?_
   go_simp
   exact hK _ _ ⟨rfl, rfl⟩
  case a5 =>
   go_light
   intro L σ W' hcl hL hC hw
   have e2 := wV hw 2 rfl
   have e4 := wV hw 4 rfl
   clear hw
   have HC := Lib.hid hC
   clear hC
   clear hcl hL
   refine OpGoes.go fun K hK => ?_
   go_simp
   obtain ⟨hB, hx, hz, hw_, hc, he, hX, ⟨_, _, _, _, hy⟩, hy_o⟩ := HC.out
   refine (HPA.out _ hB).mono ?_
   rintro e w1 ⟨rfl, hb1⟩
   exact ⟨_, rfl, hK _ _ ⟨⟨bstep hB hB.size hb1, hx.below hb1 hx.lt, hz.below hb1 hz.lt, hw_.below hb1 hw_.lt, hc.below hb1, he.below hb1, hX.below hb1 hX.lt, ⟨_, _, _, _, hy.below hb1 hy.lt⟩, fun h => (hy_o (by simpa [upd] using h)).below hb1 (hy_o (by simpa [upd] using h)).lt⟩, rfl, hb1⟩⟩
  case a9 =>
   go_light
   intro L σ W' hcl hL hC hw hne
   have e7 := wV hw 7 rfl
   have e8 := wV hw 8 rfl
   clear hw hne
   have HC := Lib.hid hC
   obtain ⟨hB, hx, hz, hw_, hc, he, hX, ⟨_, _, _, _, hy⟩, hy_o⟩ := hC
   clear hcl hL
   have kc_ := hy.cell
   have kf_ := hy.frozen
   clear hB hx hz hw_ hc he hX hy hy_o
   refine OpGoes.go fun K hK => ?_
   go_simp
   obtain ⟨hB, hx, hz, hw_, hc, he, hX, ⟨_, _, _, _, hy⟩, hy_o⟩ := HC.out
   have hset := ((((hy.set 4 (.bool p.s)).set 5 (.int .i64 p.n)).set 6 (.bool p.f)).set 7 (.int .i64 p.v))
   simp only [List.setIfInBounds_toArray, List.set_cons_zero, List.set_cons_succ] at hset
   refine hK _ _ ⟨⟨(sc (sc (sc (sc hB)))), ((((hx.sn).sn).sn).sn), ((((hz.sn).sn).sn).sn), ((((hw_.sn).sn).sn).sn), ((((hc.sn).sn).sn).sn), ((((he.sn).sn).sn).sn), ((((hX.sn).sn).sn).sn), ⟨_, _, _, _, hset⟩, fun h => absurd h (by simp [upd])⟩, hset, by simp, keepV ?_⟩
   exact ⟨fun h => absurd rfl h, trivial⟩
  ·
   intro L L' W' hLL hC
   obtain ⟨hB, hx, hz, hw_, hc, he, hX, ⟨_, _, _, _, hy⟩, hy_o⟩ := hC
   exact ⟨hB, hx, hz, hw_, hc, he, hX, ⟨_, _, _, _, hy⟩, fun h => hy_o (hLL _ h)⟩
  ·
   intro σ L W' hall hC hRR
   obtain ⟨hB, hx, hz, hw_, hc, he, hX, ⟨_, _, _, _, hy⟩, hy_o⟩ := hC
   have s9 := dE hRR 9 rfl
   clear hRR
   simp only [lexAll]
   go_simp
   go_step
   go_meet
   exact ⟨hB, hx, s9, hz, hw_⟩
 case rest =>
  clear hB hx hy hz hw_ hc he hX
  obtain ⟨hB, hx, hy, hz, hw_⟩ := hcut
  have ky := hy.cell
  go_wp2_with fail
  refine (imayPut_any p t _).mono ?_
  rintro e w1 ⟨rfl, hb1⟩
  replace hx := hx.below hb1 hx.lt
  replace hy := hy.below hb1 hy.lt
  replace hz := hz.below hb1 hz.lt
  replace hw_ := hw_.below hb1 hw_.lt
  replace hB := bstep hB hB.size hb1
  clear hb1 ky
  have hs0 := hs.below hB hh
  have lwc := hw_.lt
  have ky := hy.cell
  have fy := hy.frozen
  cases hmp : mayPut p t
  ·
   have HMP := Lib.hid hmp
   clear hmp
   go_upto_region 8 with fail
   have HV := Lib.hid (show PH (put5 s ⟨5, v, r, t, seen, tr, sp, ag, re⟩) = (s, (⟨8, v, r, t, p, tr, sp, ag, re⟩ : Hd)) by simp only [PH, put5, HLK.out, HMP.out]; rfl)
   refine ret4 w s lo hi (some ⟨b, 0, none⟩) n cap (⟨8, v, r, t, p, tr, sp, ag, re⟩ : Hd) w.heap.size (w.heap.size + 1) (by kernel_rfl) (by kernel_rfl) (by kernel_rfl) (by kernel_rfl) (by omega) (by omega) ⟨(sc hB), (hx.sn), by simpa using (hy.set 0 (.int .i64 8)), (hz.sn), (hw_.sn), (hs0.sr), by simp; omega⟩ ?k0 ?k1 ?k2 ?k3 ?hQ
   case k0 | k1 | k2 | k3 =>
    intros
    rename_i k
    have kc_ := k.cell
    have kf_ := k.frozen
    refine OpGoes.go fun K hK => ?_
    go_simp
    first | exact hK _ _ ⟨rfl, rfl⟩ | exact hK _ _ rfl
   case hQ =>
    clear ky fy hB hx hy hz hw_ hs0
    generalize hq2 : (⟨8, v, r, t, p, tr, sp, ag, re⟩ : Hd) = h2 at *
    clear hq2
    intro σ W' _ hB k7 k8 hG _
    replace k7 := k7.cell
    replace k8 := k8.cell
    simp only [lexAll]
    go_simp
    go_step
    go_wp2
    refine bodyPost_ret (v := .tuple #[stV s (some ⟨b, 0, none⟩) n cap, hdV h2]) (by simp [results, Tryz.results117, go_sem, k7, k8, stV, hdV]) rfl ⟨(some ⟨b, 0, none⟩), n, cap, by rw [HV.out], ?_, hB⟩
    rw [HV.out]
    exact hG.cut.mono (Nat.zero_le _) (Nat.le_refl _)
  ·
   have HMP := Lib.hid hmp
   clear hmp
   cases hsf : p.s
   ·
    rw [hsf] at ky
    go_upto_region 8 with fail
    have HSF := Lib.hid hsf
    clear hsf
    have HV := Lib.hid (show PH (put5 s ⟨5, v, r, t, seen, tr, sp, ag, re⟩) = (s, (⟨6, v, r, t, p, tr, sp, ag, re⟩ : Hd)) by simp only [PH, put5, HLK.out, HMP.out, HSF.out]; rfl)
    refine ret4 w s lo hi (some ⟨b, 0, none⟩) n cap (⟨6, v, r, t, p, tr, sp, ag, re⟩ : Hd) w.heap.size (w.heap.size + 1) (by kernel_rfl) (by kernel_rfl) (by kernel_rfl) (by kernel_rfl) (by omega) (by omega) ⟨(sc hB), (hx.sn), by simpa using (hy.set 0 (.int .i64 6)), (hz.sn), (hw_.sn), (hs0.sr), by simp; omega⟩ ?k0 ?k1 ?k2 ?k3 ?hQ
    case k0 | k1 | k2 | k3 =>
     intros
     rename_i k
     have kc_ := k.cell
     have kf_ := k.frozen
     refine OpGoes.go fun K hK => ?_
     go_simp
     first | exact hK _ _ ⟨rfl, rfl⟩ | exact hK _ _ rfl
    case hQ =>
     clear ky fy hB hx hy hz hw_ hs0
     generalize hq2 : (⟨6, v, r, t, p, tr, sp, ag, re⟩ : Hd) = h2 at *
     clear hq2
     intro σ W' _ hB k7 k8 hG _
     replace k7 := k7.cell
     replace k8 := k8.cell
     simp only [lexAll]
     go_simp
     go_step
     go_wp2
     refine bodyPost_ret (v := .tuple #[stV s (some ⟨b, 0, none⟩) n cap, hdV h2]) (by simp [results, Tryz.results117, go_sem, k7, k8, stV, hdV]) rfl ⟨(some ⟨b, 0, none⟩), n, cap, by rw [HV.out], ?_, hB⟩
     rw [HV.out]
     exact hG.cut.mono (Nat.zero_le _) (Nat.le_refl _)
   ·
    rw [hsf] at ky
    go_upto_region 8 with fail
    have HSF := Lib.hid hsf
    clear hsf
    have HV := Lib.hid (show PH (put5 s ⟨5, v, r, t, seen, tr, sp, ag, re⟩) = (s, (⟨7, v, r, t, p, tr, sp, ag, re⟩ : Hd)) by simp only [PH, put5, HLK.out, HMP.out, HSF.out]; rfl)
    refine ret4 w s lo hi (some ⟨b, 0, none⟩) n cap (⟨7, v, r, t, p, tr, sp, ag, re⟩ : Hd) w.heap.size (w.heap.size + 1) (by kernel_rfl) (by kernel_rfl) (by kernel_rfl) (by kernel_rfl) (by omega) (by omega) ⟨(sc hB), (hx.sn), by simpa using (hy.set 0 (.int .i64 7)), (hz.sn), (hw_.sn), (hs0.sr), by simp; omega⟩ ?k0 ?k1 ?k2 ?k3 ?hQ
    case k0 | k1 | k2 | k3 =>
     intros
     rename_i k
     have kc_ := k.cell
     have kf_ := k.frozen
     refine OpGoes.go fun K hK => ?_
     go_simp
     first | exact hK _ _ ⟨rfl, rfl⟩ | exact hK _ _ rfl
    case hQ =>
     clear ky fy hB hx hy hz hw_ hs0
     generalize hq2 : (⟨7, v, r, t, p, tr, sp, ag, re⟩ : Hd) = h2 at *
     clear hq2
     intro σ W' _ hB k7 k8 hG _
     replace k7 := k7.cell
     replace k8 := k8.cell
     simp only [lexAll]
     go_simp
     go_step
     go_wp2
     refine bodyPost_ret (v := .tuple #[stV s (some ⟨b, 0, none⟩) n cap, hdV h2]) (by simp [results, Tryz.results117, go_sem, k7, k8, stV, hdV]) rfl ⟨(some ⟨b, 0, none⟩), n, cap, by rw [HV.out], ?_, hB⟩
     rw [HV.out]
     exact hG.cut.mono (Nat.zero_le _) (Nat.le_refl _)
def ia7V (s : St) (N b n cap pb : Nat) (rg : Rg) (p : Pl) (v r t : Int) (seen : Pl) (tr sp : Int) (ag : Bool) (re : Int) (n' cap' : Nat) : List Sl := [.v (.pointer (some ⟨N, 2, none⟩)),
 .v (.slice (some ⟨b, 0, none⟩) n cap),
 .v (.pointer (some ⟨(N + 1), 2, none⟩)),
 .v r,
 .v (.pointer (some ⟨b, r.toNat * 5, none⟩)),
 .v (.agg #[rg.h, rg.t, rg.c, rg.x, .slice (some ⟨pb, 0, none⟩) n' cap']),
 .v (.pointer (some ⟨(N + 1), 3, none⟩)),
 .v t,
 .v (.int .i64 (t % s.rd)),
 .v (.int .i64 (t % s.rd))]
set_option maxRecDepth 100000 in
set_option maxHeartbeats 4000000 in
theorem ips_7 (s : St) (A : Option Addr) (n cap lo hi B : Nat) (a0 a1 a2 a3 a4 a5 : Addr) (v r t : Int) (seen : Pl) (tr sp : Int) (ag : Bool) (re : Int) (w : World) (hs : RgsW lo hi w A n cap s.rs) (hh : hi ≤ w.heap.size) (hok : stOk s = true) (hrb : ringB s r = true) (hE : Snt B a0 a1 a2 a3 a4 a5 w) (ht : 0 ≤ t ∧ t ≤ 1000000) :
  Calls Tryz.prog 119 #[stV s A n cap, hdV ⟨7, v, r, t, seen, tr, sp, ag, re⟩] w (RetSH (PH (put7 s ⟨7, v, r, t, seen, tr, sp, ag, re⟩)) w) := by
 have HOK := Lib.hid hok
 have HRB := Lib.hid hrb
 have HLN := Lib.hid hs.1
 have HNT := Lib.hid (stOk_neat hok)
 obtain ⟨z0, z1, z2⟩ := ringB_at HLN.out hrb
 clear hok hrb
 obtain ⟨t0, t1⟩ := ht
 unfold stV hdV
 dsimp only
 go_enter Tryz.func119, Tryz.ntmps119
 go_upto_region 1 with fail
 refine wp_abs (fun W => Below w.heap.size w W ∧ BoxAt W w.heap.size (aS s A n cap) 32 ∧ BoxAt W (w.heap.size + 1) (dH 7 v r t seen tr sp ag re) 35 ∧ BoxAt W (w.heap.size + 1 + 1) zS 32 ∧ BoxAt W (w.heap.size + 1 + 1 + 1) zH 35) ⟨(((((Below.refl _ _).alloc (Nat.le_refl _) _).alloc (by simp) _).alloc (by simp; omega) _).alloc (by simp; omega) _), (((BoxAt.new _ _ _).alloc _).alloc _).alloc _, ((BoxAt.new' (by simp)).alloc _).alloc _, (BoxAt.new' (by simp)).alloc _, BoxAt.new' (by simp)⟩ ?_
 rintro W0 ⟨hB, hx, hy, hz, hw_⟩
 have lw0 := hw_.lt
 have hs0 := hs.below hB hh
 have kx := hx.cell
 have ky := hy.cell
 have fy := hy.frozen
 obtain ⟨b, rg, A', n', cap', rfl, hlb, hbh, hri, c0, c1', c2, c3, c4, hpw⟩ := hs0.at_ z2
 have HAT := Lib.hid (St.at_some (s := s) (z := r) hri)
 have hrd := stOk_rd HOK.out
 have hrp := stOk_places HOK.out rg (List.mem_of_getElem? hri)
 have hn' : n' = rg.ps.length := hpw.1.symm
 obtain ⟨pb, rfl, hpbh, hpo⟩ := hpw.2 (by omega)
 have hm0 := Int.emod_nonneg t (show s.rd ≠ 0 by omega)
 have hm1 := Int.emod_lt_of_pos t (show 0 < s.rd by omega)
 have hkl : (t % s.rd).toNat < rg.ps.length := by omega
 obtain ⟨p, hpx⟩ : ∃ p, rg.ps[(t % s.rd).toNat]? = some p := ⟨_, List.getElem?_eq_getElem hkl⟩
 have he : PlE 0 W0 pb ((t % s.rd).toNat * 4) p := PlE.of_cells fun j u hu => Own.cell_ Pl.cs_len hpo hpx hu
 have hc : RgC W0 b r.toNat rg (some ⟨pb, 0, none⟩) n' cap' := ⟨c0, c1', c2, c3, c4⟩
 have hat0 : t % s.rd < (n' : Int) := by omega
 have hbl2 : b < w.heap.size ∧ pb < w.heap.size := by omega
 have hrok := stOk_rgok HOK.out (List.mem_of_getElem? hri)
 have hPR : ∀ W : World, Below w.heap.size w W → PlsR 0 W (some ⟨pb, 0, none⟩) n' rg.ps := fun W hBW => PlsW.r (lo := lo) (hi := hi) ⟨hpw.1, fun _ => ⟨pb, rfl, hpbh, Own.keep hpo (by rw [hBW.block pb (by omega), hB.block pb (by omega)])⟩⟩
 have HPA := Lib.hid (show ∀ W : World, Below w.heap.size w W → Calls Tryz.prog 128 #[rgV rg.h rg.t rg.c rg.x (some ⟨pb, 0, none⟩) n' cap', .int .i64 t] W (RetBelow (.int .i64 (t % s.rd)) W) from fun W hBW => by
  have := iplaceAt_any rg.h rg.t rg.c rg.x (some ⟨pb, 0, none⟩) n' cap' rg.ps t W (hPR W hBW) (by omega)
  rw [placeAt_yes (by rw [show rgOk rg.h rg.t rg.c rg.x rg.ps = true from hrok, show noB t = true by simp only [noB, Bool.and_eq_true, decide_eq_true_eq]; omega]; rfl), hrp] at this
  exact this)
 unfold rgV at HPA
 clear hpx hpw hpo hs0 hn' hrp hri hrok he c0 c1' c2 c3 c4 kx ky fy hPR
 go_cut [6] (fun u W' => Below w.heap.size w W' ∧ BoxAt W' w.heap.size (aS s (some ⟨b, 0, none⟩) n cap) 32 ∧ BoxAt W' (w.heap.size + 1) (dH 7 v r t seen tr sp ag re) 35 ∧ BoxAt W' (w.heap.size + 1 + 1) zS 32 ∧ BoxAt W' (w.heap.size + 1 + 1 + 1) zH 35 ∧ u = .int .i64 (t % s.rd))
 case first =>
  refine wp_region2v (fun w w' => Below w.heap.size w w') (fun _ _ h => h.size) (fun _ => Below.refl _ _) (fun L W' => Below w.heap.size w W' ∧ BoxAt W' w.heap.size (aS s (some ⟨b, 0, none⟩) n cap) 32 ∧ BoxAt W' (w.heap.size + 1) (dH 7 v r t seen tr sp ag re) 35 ∧ BoxAt W' (w.heap.size + 1 + 1) zS 32 ∧ BoxAt W' (w.heap.size + 1 + 1 + 1) zH 35 ∧ RgC W' b r.toNat rg (some ⟨pb, 0, none⟩) n' cap') (ia7V s w.heap.size b n cap pb rg p v r t seen tr sp ag re n' cap') (fun _ => 0) [] (by kernel_rfl) (by kernel_rfl) ?_ ?_ ?_
   (.still rfl ?a0 <| .still rfl ?a1 <| .still rfl ?a2 <| .still rfl ?a3 <| .still rfl ?a4 <| .still rfl ?a5 <| .still rfl ?a6 <| .still rfl ?a7 <| .grow rfl ?a8 <| .still rfl ?a9 <| .nil) ?_ ?_
  · exact trivial
  · exact trivial
  · exact ⟨hB.drew, hx, hy, hz, hw_, hc⟩
  case a0 | a2 | a4 | a6 | a9 =>
   go_light
   intro L σ W' hcl hL hC hw
   try have e1 := wT hw 1 rfl
   try have e3 := wT hw 3 rfl
   try have e8 := wT hw 8 rfl
   clear hw hcl hL hC
   refine OpGoes.go fun K hK => ?_
   go_simp
   exact hK _ _ ⟨rfl, rfl⟩
  case a1 =>
   go_light
   intro L σ W' hcl hL hC hw
   have e0 := wV hw 0 rfl
   have ks := hC.2.1.cell
   clear hw hcl hL hC
   refine OpGoes.go fun K hK => ?_
   go_simp
   exact hK _ _ ⟨rfl, rfl⟩
  case a3 | a7 =>
   go_light
   intro L σ W' hcl hL hC hw
   try have e2 := wT hw 2 rfl
   try have e6 := wT hw 6 rfl
   have kh := hC.2.2.1.cell
   clear hw hcl hL hC
   refine OpGoes.go fun K hK => ?_
   go_simp
   exact hK _ _ ⟨rfl, rfl⟩
  case a5 =>
   go_light
   intro L σ W' hcl hL hC hw
   have e4 := wV hw 4 rfl
   have hc0 := hC.2.2.2.2.2
   obtain ⟨c0, c1_, c2, c3, c4⟩ := hc0
   clear hw hcl hL hC
   refine OpGoes.go fun K hK => ?_
   go_simp
   exact hK _ _ ⟨rfl, rfl⟩
  case a8 =>
   go_light
   intro L σ W' hcl hL hC hw
   have e5 := wV hw 5 rfl
   have e7 := wV hw 7 rfl
   clear hw
   have HC := Lib.hid hC
   clear hC
   clear hcl hL
   refine OpGoes.go fun K hK => ?_
   go_simp
   obtain ⟨hB, hx, hy, hz, hw_, hc⟩ := HC.out
   refine (HPA.out _ hB).mono ?_
   rintro e w1 ⟨rfl, hb1⟩
   exact ⟨_, rfl, hK _ _ ⟨⟨bstep hB hB.size hb1, hx.below hb1 hx.lt, hy.below hb1 hy.lt, hz.below hb1 hz.lt, hw_.below hb1 hw_.lt, hc.below hb1⟩, rfl, hb1⟩⟩
  ·
   intro L L' W' hLL hC
   obtain ⟨hB, hx, hy, hz, hw_, hc⟩ := hC
   exact ⟨hB, hx, hy, hz, hw_, hc⟩
  ·
   intro σ L W' hall hC hRR
   obtain ⟨hB, hx, hy, hz, hw_, hc⟩ := hC
   have e9 := dV hRR 9 rfl
   clear hRR
   simp only [lexAll]
   go_simp
   go_step
   go_meet
   exact ⟨hB, hx, hy, hz, hw_, rfl⟩
 case rest =>
  clear hB hx hy hz hw_ hc
  obtain ⟨hB, hx, hy, hz, hw_, rfl⟩ := hcut
  have lwc := hw_.lt
  have ky := hy.cell
  go_upto_region 3 with fail
  refine wp_abs (fun W' => Below w.heap.size w W' ∧ BoxAt W' w.heap.size (aS s (some ⟨b, 0, none⟩) n cap) 32 ∧ BoxAt W' (w.heap.size + 1) (dH 7 v r t seen tr sp ag re) 35 ∧ BoxAt W' (w.heap.size + 1 + 1) zS 32 ∧ BoxAt W' (w.heap.size + 1 + 1 + 1) zH 35 ∧ BoxAt W' wc.heap.size #[.bool true, t, .bool true, v] 33) ⟨hB.alloc hB.size _, hx.alloc _, hy.alloc _, hz.alloc _, hw_.alloc _, BoxAt.new _ _ _⟩ ?_
  generalize wc.heap.size = Y at *
  clear hB hx hy hz hw_ ky
  rintro W0 ⟨hB, hx, hy, hz, hw_, hY⟩
  have lw0 := hw_.lt
  have hs0 := hs.below hB hh
  have kx := hx.cell
  have ky := hy.cell
  have fy := hY.cell
  obtain ⟨e0, e1, ⟨e2, n2_⟩, ⟨e3, n3_⟩, ⟨e4, n4_⟩, e5, n5_⟩ := hE.below hB
  go_wp2_with fail
  clear kx ky fy
  refine (iswap_any s (some ⟨b, 0, none⟩) n cap lo hi B a0 a1 a2 a3 a4 r (t % s.rd) seen ⟨true, t, true, v⟩ _ hs0 (Nat.le_trans hh hB.size) e0 e1 e2 n2_ e3 n3_ e4 n4_ (by have := HNT.out.2.1; have := HLN.out; omega) HNT.out.len).mono ?_
  rintro e w1 ⟨A5, n5, c5, rfl, hG5, hb5⟩
  replace hG5 := hG5.toW
  replace hx := hx.below hb5 hx.lt
  replace hy := hy.below hb5 hy.lt
  replace hz := hz.below hb5 hz.lt
  replace hw_ := hw_.below hb5 hw_.lt
  have h5 := hb5.size
  replace hB := bstep hB hB.size hb5
  clear hb5
  generalize hq5 : swapPlace s r (t % s.rd) seen ⟨true, t, true, v⟩ = q at *
  have HQ5 := Lib.hid hq5; clear hq5
  unfold stV
  go_upto_region 4 with fail
  refine wp_abs (fun W' => Below w.heap.size w W' ∧ BoxAt W' w.heap.size (aS s (some ⟨b, 0, none⟩) n cap) 32 ∧ BoxAt W' (w.heap.size + 1) (dH 7 v r t seen tr sp ag re) 35 ∧ BoxAt W' (w.heap.size + 1 + 1) zS 32 ∧ BoxAt W' (w.heap.size + 1 + 1 + 1) zH 35 ∧ BoxAt W' w1.heap.size (aS q.1 A5 n5 c5) 32 ∧ RgsW W0.heap.size w1.heap.size W' A5 n5 c5 q.1.rs) ⟨hB.alloc hB.size _, hx.alloc _, hy.alloc _, hz.alloc _, hw_.alloc _, BoxAt.new _ _ _, hG5.al (Nat.le_refl _) _⟩ ?_
  have h54 : w.heap.size + 4 ≤ W0.heap.size := by omega
  generalize w1.heap.size = X at *
  generalize W0.heap.size = P5 at *
  clear hB hx hy hz hw_ hG5 e0 e1 e2 e3 e4 e5
  rintro W2 ⟨hB, hx, hy, hz, hw_, hX, hG5⟩
  have lX := hX.lt
  have ky := hy.cell
  have fy := hy.frozen
  have kX := hX.cell
  cases hq2 : q.2
  ·
   have HQ2 := Lib.hid hq2; clear hq2
   go_upto_region 6 with fail
   have HV := Lib.hid (show PH (put7 s ⟨7, v, r, t, seen, tr, sp, ag, re⟩) = (q.1, (⟨8, v, r, t, seen, tr, sp, ag, re⟩ : Hd)) by simp only [PH, put7, HQ5.out, HQ2.out]; rfl)
   refine ret4 w q.1 P5 X A5 n5 c5 (⟨8, v, r, t, seen, tr, sp, ag, re⟩ : Hd) X (w.heap.size + 1) (by kernel_rfl) (by kernel_rfl) (by kernel_rfl) (by kernel_rfl) (by omega) (by omega) ⟨(sc hB), (hX.sn), by simpa using (hy.set 0 (.int .i64 8)), (hz.sn), (hw_.sn), (hG5.sl), by simp; omega⟩ ?k0 ?k1 ?k2 ?k3 ?hQ
   case k0 | k1 | k2 | k3 =>
    intros
    rename_i k
    have kc_ := k.cell
    have kf_ := k.frozen
    refine OpGoes.go fun K hK => ?_
    go_simp
    first | exact hK _ _ ⟨rfl, rfl⟩ | exact hK _ _ rfl
   case hQ =>
    clear ky fy kX hB hx hy hz hw_ hG5 hX
    generalize hq2 : (⟨8, v, r, t, seen, tr, sp, ag, re⟩ : Hd) = h2 at *
    clear hq2
    intro σ W' _ hB k7 k8 hG _
    replace k7 := k7.cell
    replace k8 := k8.cell
    simp only [lexAll]
    go_simp
    go_step
    go_wp2
    refine bodyPost_ret (v := .tuple #[stV q.1 A5 n5 c5, hdV h2]) (by simp [results, Tryz.results119, go_sem, k7, k8, stV, hdV]) rfl ⟨A5, n5, c5, by rw [HV.out], ?_, hB⟩
    rw [HV.out]
    exact hG.cut.mono (Nat.zero_le _) (Nat.le_refl _)
  ·
   have HQ2 := Lib.hid hq2; clear hq2
   go_upto_region 7 with fail
   have HV := Lib.hid (show PH (put7 s ⟨7, v, r, t, seen, tr, sp, ag, re⟩) = (q.1, (⟨7, v, r, t, seen, tr, sp, ag, re⟩ : Hd).rest 1) by simp only [PH, put7, HQ5.out, HQ2.out, if_true])
   refine ret5 w 1 q.1 P5 X A5 n5 c5 (⟨7, v, r, t, seen, tr, sp, ag, re⟩ : Hd) X (w.heap.size + 1) (by kernel_rfl) (by kernel_rfl) (by kernel_rfl) (by kernel_rfl) (by kernel_rfl) (by omega) (by omega) ⟨hB, hX, hy, hz, hw_, hG5, by omega⟩ ?k0 ?k1 ?k2 ?k3 ?k4 ?hQ
   case k0 | k1 | k3 | k4 =>
    intros
    rename_i k
    have kc_ := k.cell
    have kf_ := k.frozen
    refine OpGoes.go fun K hK => ?_
    go_simp
    first | exact hK _ _ ⟨rfl, rfl⟩ | exact hK _ _ rfl
   case k2 =>
    intros
    refine OpGoes.go fun K hK => ?_
    go_simp
    refine (irest_any (⟨7, v, r, t, seen, tr, sp, ag, re⟩ : Hd) 1 _).mono ?_
    rintro e w1 ⟨rfl, hb1⟩
    exact ⟨_, rfl, hK _ _ ⟨rfl, hb1⟩⟩
   case hQ =>
    clear ky fy kX hB hx hy hz hw_ hG5 hX
    generalize hq2 : (⟨7, v, r, t, seen, tr, sp, ag, re⟩ : Hd) = h2 at *
    clear hq2
    intro σ W' _ hB k7 k8 hG _
    replace k7 := k7.cell
    replace k8 := k8.cell
    simp only [lexAll]
    go_simp
    go_step
    go_wp2
    refine bodyPost_ret (v := .tuple #[stV q.1 A5 n5 c5, hdV (h2.rest 1)]) (by simp [results, Tryz.results119, go_sem, k7, k8, stV, hdV, Hd.rest, Hd.zero]) rfl ⟨A5, n5, c5, by rw [HV.out], ?_, hB⟩
    rw [HV.out]
    exact hG.cut.mono (Nat.zero_le _) (Nat.le_refl _)
end Go.Proofs.YthpckpnlohfcbaaGreatDoor
