/-
 The walk of a step of one who puts, of the model: all but the last three.
-/
import Derived.Test.YtplgabogdeeohaaGreatTail
namespace Go.Proofs.YtplgabogdeeohaaGreat
set_option linter.unusedSimpArgs false
set_option linter.unusedVariables false
open Go.RowKit
set_option linter.unusedVariables false
attribute [local go_sem] OpUpon
attribute [local go_sem ↓] Go.wp_at_zero Go.wp_at_succ

def put1 (s : St) (h : Hd) : St × Hd × Bool := fin true s { h with r := s.la, at_ := 2 }
def put2 (s : St) (h : Hd) : St × Hd × Bool := fin true s (if 0 ≤ (s.at h.r).x then { h with t := (s.at h.r).x, at_ := 3 } else { h with at_ := 4 })
def put3 (s : St) (h : Hd) : St × Hd × Bool := fin true (swing s true h.r h.t).1 { h with at_ := 1 }
def put4 (s : St) (h : Hd) : St × Hd × Bool := fin (decide (0 ≤ (putTicket s h.r).2)) (putTicket s h.r).1 { h with t := (putTicket s h.r).2, at_ := if (s.at h.r).c then 10 else 5 }
def put6 (s : St) (h : Hd) : St × Hd × Bool := fin true s { h with at_ := if (s.at h.r).h ≤ h.t then 7 else 8 }
def put9 (s : St) (h : Hd) : St × Hd × Bool := fin true (closeR s h.r).1 { h with at_ := 10 }

set_option maxRecDepth 100000 in
set_option maxHeartbeats 4000000 in
theorem l6Put_1 (s : St) (A : Option Addr) (n cap lo hi : Nat) (v r t : Int) (seen : Pl) (tr sp : Int) (ag : Bool) (re : Int) (w : World) (hs : RgsW lo hi w A n cap s.rs) (hh : hi ≤ w.heap.size) (hlo : lo ≤ w.heap.size) (hok : stOk s = true) (hrb : ringB s r = true) :
  Calls Tryz.prog 91 #[stV s A n cap, hdV ⟨1, v, r, t, seen, tr, sp, ag, re⟩] w (RetSHB lo (put1 s ⟨1, v, r, t, seen, tr, sp, ag, re⟩) w) := by
 have HOK := Lib.hid hok
 have HRB := Lib.hid hrb
 have HLN := Lib.hid hs.1
 have HNT := Lib.hid (stOk_neat hok)
 obtain ⟨z0, z1, z2⟩ := ringB_at HLN.out hrb
 clear hok hrb
 unfold stV hdV
 dsimp only
 go_enter Tryz.func91, Tryz.ntmps91
 go_upto_region 7 with fail
 refine wp_abs (fun W => Below w.heap.size w W ∧ BoxAt W w.heap.size (aS s A n cap) 58 ∧ BoxAt W (w.heap.size + 1) (dH 1 v r t seen tr sp ag re) 97 ∧ BoxAt W (w.heap.size + 1 + 1) zS 58 ∧ BoxAt W (w.heap.size + 1 + 1 + 1) zH 97) ⟨(((((Below.refl _ _).alloc (Nat.le_refl _) _).alloc (by simp) _).alloc (by simp; omega) _).alloc (by simp; omega) _), (((BoxAt.new _ _ _).alloc _).alloc _).alloc _, ((BoxAt.new' (by simp)).alloc _).alloc _, (BoxAt.new' (by simp)).alloc _, BoxAt.new' (by simp)⟩ ?_
 rintro W0 ⟨hB, hx, hy, hz, hw_⟩
 have lw0 := hw_.lt
 have hs0 := hs.below hB hh
 have kx := hx.cell
 have ky := hy.cell
 have fy := hy.frozen
 go_upto_region 50 with fail
 have HV := Lib.hid (show put1 s ⟨1, v, r, t, seen, tr, sp, ag, re⟩ = (s, (⟨2, v, s.la, t, seen, tr, sp, ag, re⟩ : Hd), ((⟨2, v, s.la, t, seen, tr, sp, ag, re⟩ : Hd)).ok) by rfl)
 refine p6T_wp w s lo hi A n cap (⟨2, v, s.la, t, seen, tr, sp, ag, re⟩ : Hd) (by kernel_rfl) (by omega) ⟨(sc (sc hB)), ((hx.sn).sn), by simpa using ((hy.set 2 (.int .i64 s.la)).set 0 (.int .i64 2)), ((hz.sn).sn), ((hw_.sn).sn), ((hs0.sr).sr), by simp; omega⟩ ?_
 clear kx ky fy hB hx hy hz hw_ hs0
 generalize hq2 : (⟨2, v, s.la, t, seen, tr, sp, ag, re⟩ : Hd) = h2 at *
 clear hq2
 intro _ _ _ _ _ _ _ W' hB k7 k8 hG _
 replace k7 := k7.cell
 replace k8 := k8.cell
 go_step
 go_wp2
 refine bodyPost_ret (v := .tuple #[stV s A n cap, hdV h2, .bool (h2.ok)]) (by simp [results, Tryz.results91, go_sem, k7, k8, stV, hdV]) rfl ⟨A, n, cap, by rw [HV.out], ?_, hB⟩
 rw [HV.out]
 exact hG.cut.mono (by omega) (Nat.le_refl _)
set_option maxRecDepth 100000 in
set_option maxHeartbeats 4000000 in
theorem l6Put_2 (s : St) (A : Option Addr) (n cap lo hi : Nat) (v r t : Int) (seen : Pl) (tr sp : Int) (ag : Bool) (re : Int) (w : World) (hs : RgsW lo hi w A n cap s.rs) (hh : hi ≤ w.heap.size) (hlo : lo ≤ w.heap.size) (hok : stOk s = true) (hrb : ringB s r = true) :
  Calls Tryz.prog 91 #[stV s A n cap, hdV ⟨2, v, r, t, seen, tr, sp, ag, re⟩] w (RetSHB lo (put2 s ⟨2, v, r, t, seen, tr, sp, ag, re⟩) w) := by
 have HOK := Lib.hid hok
 have HRB := Lib.hid hrb
 have HLN := Lib.hid hs.1
 have HNT := Lib.hid (stOk_neat hok)
 obtain ⟨z0, z1, z2⟩ := ringB_at HLN.out hrb
 clear hok hrb
 unfold stV hdV
 dsimp only
 go_enter Tryz.func91, Tryz.ntmps91
 go_upto_region 10 with fail
 refine wp_abs (fun W => Below w.heap.size w W ∧ BoxAt W w.heap.size (aS s A n cap) 58 ∧ BoxAt W (w.heap.size + 1) (dH 2 v r t seen tr sp ag re) 97 ∧ BoxAt W (w.heap.size + 1 + 1) zS 58 ∧ BoxAt W (w.heap.size + 1 + 1 + 1) zH 97) ⟨(((((Below.refl _ _).alloc (Nat.le_refl _) _).alloc (by simp) _).alloc (by simp; omega) _).alloc (by simp; omega) _), (((BoxAt.new _ _ _).alloc _).alloc _).alloc _, ((BoxAt.new' (by simp)).alloc _).alloc _, (BoxAt.new' (by simp)).alloc _, BoxAt.new' (by simp)⟩ ?_
 rintro W0 ⟨hB, hx, hy, hz, hw_⟩
 have lw0 := hw_.lt
 have hs0 := hs.below hB hh
 have kx := hx.cell
 have ky := hy.cell
 have fy := hy.frozen
 obtain ⟨b, rg, A', n', cap', rfl, hlb, hbh, hri, c0, c1', c2, c3, c4, hpw⟩ := hs0.at_ z2
 have HAT := Lib.hid (St.at_some (s := s) (z := r) hri)
 have hnum := stOk_nums HOK.out rg (List.mem_of_getElem? hri)
 clear hri
 by_cases hx0 : 0 ≤ rg.x
 ·
  have HV0 := Lib.hid hx0
  go_upto_region 50 with fail
  clear c0 c1' c2 c3 c4 hpw hnum
  have HV := Lib.hid (show put2 s ⟨2, v, r, t, seen, tr, sp, ag, re⟩ = (s, (⟨3, v, r, rg.x, seen, tr, sp, ag, re⟩ : Hd), ((⟨3, v, r, rg.x, seen, tr, sp, ag, re⟩ : Hd)).ok) by simp only [put2, HAT.out, HV0.out, if_true]; rfl)
  refine p6T_wp w s lo hi (some ⟨b, 0, none⟩) n cap (⟨3, v, r, rg.x, seen, tr, sp, ag, re⟩ : Hd) (by kernel_rfl) (by omega) ⟨(sc (sc (sc hB))), (((hx.sn).sn).sn), by simpa using (((hy.set 0 (.int .i64 4)).set 3 (.int .i64 rg.x)).set 0 (.int .i64 3)), (((hz.sn).sn).sn), (((hw_.sn).sn).sn), (((hs0.sr).sr).sr), by simp; omega⟩ ?_
  clear kx ky fy hB hx hy hz hw_ hs0
  generalize hq2 : (⟨3, v, r, rg.x, seen, tr, sp, ag, re⟩ : Hd) = h2 at *
  clear hq2
  intro _ _ _ _ _ _ _ W' hB k7 k8 hG _
  replace k7 := k7.cell
  replace k8 := k8.cell
  go_step
  go_wp2
  refine bodyPost_ret (v := .tuple #[stV s (some ⟨b, 0, none⟩) n cap, hdV h2, .bool (h2.ok)]) (by simp [results, Tryz.results91, go_sem, k7, k8, stV, hdV]) rfl ⟨(some ⟨b, 0, none⟩), n, cap, by rw [HV.out], ?_, hB⟩
  rw [HV.out]
  exact hG.cut.mono (by omega) (Nat.le_refl _)
 ·
  have HV0 := Lib.hid hx0
  go_upto_region 50 with fail
  clear c0 c1' c2 c3 c4 hpw hnum
  have HV := Lib.hid (show put2 s ⟨2, v, r, t, seen, tr, sp, ag, re⟩ = (s, (⟨4, v, r, t, seen, tr, sp, ag, re⟩ : Hd), ((⟨4, v, r, t, seen, tr, sp, ag, re⟩ : Hd)).ok) by simp only [put2, HAT.out, HV0.out, if_false]; rfl)
  refine p6T_wp w s lo hi (some ⟨b, 0, none⟩) n cap (⟨4, v, r, t, seen, tr, sp, ag, re⟩ : Hd) (by kernel_rfl) (by omega) ⟨(sc hB), (hx.sn), by simpa using (hy.set 0 (.int .i64 4)), (hz.sn), (hw_.sn), (hs0.sr), by simp; omega⟩ ?_
  clear kx ky fy hB hx hy hz hw_ hs0
  generalize hq2 : (⟨4, v, r, t, seen, tr, sp, ag, re⟩ : Hd) = h2 at *
  clear hq2
  intro _ _ _ _ _ _ _ W' hB k7 k8 hG _
  replace k7 := k7.cell
  replace k8 := k8.cell
  go_step
  go_wp2
  refine bodyPost_ret (v := .tuple #[stV s (some ⟨b, 0, none⟩) n cap, hdV h2, .bool (h2.ok)]) (by simp [results, Tryz.results91, go_sem, k7, k8, stV, hdV]) rfl ⟨(some ⟨b, 0, none⟩), n, cap, by rw [HV.out], ?_, hB⟩
  rw [HV.out]
  exact hG.cut.mono (by omega) (Nat.le_refl _)
set_option maxRecDepth 100000 in
set_option maxHeartbeats 4000000 in
theorem l6Put_6 (s : St) (A : Option Addr) (n cap lo hi : Nat) (v r t : Int) (seen : Pl) (tr sp : Int) (ag : Bool) (re : Int) (w : World) (hs : RgsW lo hi w A n cap s.rs) (hh : hi ≤ w.heap.size) (hlo : lo ≤ w.heap.size) (hok : stOk s = true) (hrb : ringB s r = true) :
  Calls Tryz.prog 91 #[stV s A n cap, hdV ⟨6, v, r, t, seen, tr, sp, ag, re⟩] w (RetSHB lo (put6 s ⟨6, v, r, t, seen, tr, sp, ag, re⟩) w) := by
 have HOK := Lib.hid hok
 have HRB := Lib.hid hrb
 have HLN := Lib.hid hs.1
 have HNT := Lib.hid (stOk_neat hok)
 obtain ⟨z0, z1, z2⟩ := ringB_at HLN.out hrb
 clear hok hrb
 unfold stV hdV
 dsimp only
 go_enter Tryz.func91, Tryz.ntmps91
 go_upto_region 33 with fail
 refine wp_abs (fun W => Below w.heap.size w W ∧ BoxAt W w.heap.size (aS s A n cap) 58 ∧ BoxAt W (w.heap.size + 1) (dH 6 v r t seen tr sp ag re) 97 ∧ BoxAt W (w.heap.size + 1 + 1) zS 58 ∧ BoxAt W (w.heap.size + 1 + 1 + 1) zH 97) ⟨(((((Below.refl _ _).alloc (Nat.le_refl _) _).alloc (by simp) _).alloc (by simp; omega) _).alloc (by simp; omega) _), (((BoxAt.new _ _ _).alloc _).alloc _).alloc _, ((BoxAt.new' (by simp)).alloc _).alloc _, (BoxAt.new' (by simp)).alloc _, BoxAt.new' (by simp)⟩ ?_
 rintro W0 ⟨hB, hx, hy, hz, hw_⟩
 have lw0 := hw_.lt
 have hs0 := hs.below hB hh
 have kx := hx.cell
 have ky := hy.cell
 have fy := hy.frozen
 obtain ⟨b, rg, A', n', cap', rfl, hlb, hbh, hri, c0, c1', c2, c3, c4, hpw⟩ := hs0.at_ z2
 have HAT := Lib.hid (St.at_some (s := s) (z := r) hri)
 have hnum := stOk_nums HOK.out rg (List.mem_of_getElem? hri)
 clear hri
 by_cases hx0 : rg.h ≤ t
 ·
  have HV0 := Lib.hid hx0
  go_upto_region 50 with fail
  clear c0 c1' c2 c3 c4 hpw hnum
  have HV := Lib.hid (show put6 s ⟨6, v, r, t, seen, tr, sp, ag, re⟩ = (s, (⟨7, v, r, t, seen, tr, sp, ag, re⟩ : Hd), ((⟨7, v, r, t, seen, tr, sp, ag, re⟩ : Hd)).ok) by simp only [put6, HAT.out, HV0.out, if_true]; rfl)
  refine p6T_wp w s lo hi (some ⟨b, 0, none⟩) n cap (⟨7, v, r, t, seen, tr, sp, ag, re⟩ : Hd) (by kernel_rfl) (by omega) ⟨(sc (sc hB)), ((hx.sn).sn), by simpa using ((hy.set 0 (.int .i64 8)).set 0 (.int .i64 7)), ((hz.sn).sn), ((hw_.sn).sn), ((hs0.sr).sr), by simp; omega⟩ ?_
  clear kx ky fy hB hx hy hz hw_ hs0
  generalize hq2 : (⟨7, v, r, t, seen, tr, sp, ag, re⟩ : Hd) = h2 at *
  clear hq2
  intro _ _ _ _ _ _ _ W' hB k7 k8 hG _
  replace k7 := k7.cell
  replace k8 := k8.cell
  go_step
  go_wp2
  refine bodyPost_ret (v := .tuple #[stV s (some ⟨b, 0, none⟩) n cap, hdV h2, .bool (h2.ok)]) (by simp [results, Tryz.results91, go_sem, k7, k8, stV, hdV]) rfl ⟨(some ⟨b, 0, none⟩), n, cap, by rw [HV.out], ?_, hB⟩
  rw [HV.out]
  exact hG.cut.mono (by omega) (Nat.le_refl _)
 ·
  have HV0 := Lib.hid hx0
  go_upto_region 50 with fail
  clear c0 c1' c2 c3 c4 hpw hnum
  have HV := Lib.hid (show put6 s ⟨6, v, r, t, seen, tr, sp, ag, re⟩ = (s, (⟨8, v, r, t, seen, tr, sp, ag, re⟩ : Hd), ((⟨8, v, r, t, seen, tr, sp, ag, re⟩ : Hd)).ok) by simp only [put6, HAT.out, HV0.out, if_false]; rfl)
  refine p6T_wp w s lo hi (some ⟨b, 0, none⟩) n cap (⟨8, v, r, t, seen, tr, sp, ag, re⟩ : Hd) (by kernel_rfl) (by omega) ⟨(sc hB), (hx.sn), by simpa using (hy.set 0 (.int .i64 8)), (hz.sn), (hw_.sn), (hs0.sr), by simp; omega⟩ ?_
  clear kx ky fy hB hx hy hz hw_ hs0
  generalize hq2 : (⟨8, v, r, t, seen, tr, sp, ag, re⟩ : Hd) = h2 at *
  clear hq2
  intro _ _ _ _ _ _ _ W' hB k7 k8 hG _
  replace k7 := k7.cell
  replace k8 := k8.cell
  go_step
  go_wp2
  refine bodyPost_ret (v := .tuple #[stV s (some ⟨b, 0, none⟩) n cap, hdV h2, .bool (h2.ok)]) (by simp [results, Tryz.results91, go_sem, k7, k8, stV, hdV]) rfl ⟨(some ⟨b, 0, none⟩), n, cap, by rw [HV.out], ?_, hB⟩
  rw [HV.out]
  exact hG.cut.mono (by omega) (Nat.le_refl _)
set_option maxRecDepth 100000 in
set_option maxHeartbeats 4000000 in
theorem l6Put_3 (s : St) (A : Option Addr) (n cap lo hi : Nat) (v r t : Int) (seen : Pl) (tr sp : Int) (ag : Bool) (re : Int) (w : World) (hs : RgsW lo hi w A n cap s.rs) (hh : hi ≤ w.heap.size) (hlo : lo ≤ w.heap.size) (hok : stOk s = true) (hrb : ringB s r = true) :
  Calls Tryz.prog 91 #[stV s A n cap, hdV ⟨3, v, r, t, seen, tr, sp, ag, re⟩] w (RetSHB lo (put3 s ⟨3, v, r, t, seen, tr, sp, ag, re⟩) w) := by
 have HOK := Lib.hid hok
 have HRB := Lib.hid hrb
 have HLN := Lib.hid hs.1
 have HNT := Lib.hid (stOk_neat hok)
 obtain ⟨z0, z1, z2⟩ := ringB_at HLN.out hrb
 clear hok hrb
 unfold stV hdV
 dsimp only
 go_enter Tryz.func91, Tryz.ntmps91
 go_upto_region 16 with fail
 refine wp_abs (fun W => Below w.heap.size w W ∧ BoxAt W w.heap.size (aS s A n cap) 58 ∧ BoxAt W (w.heap.size + 1) (dH 3 v r t seen tr sp ag re) 97 ∧ BoxAt W (w.heap.size + 1 + 1) zS 58 ∧ BoxAt W (w.heap.size + 1 + 1 + 1) zH 97) ⟨(((((Below.refl _ _).alloc (Nat.le_refl _) _).alloc (by simp) _).alloc (by simp; omega) _).alloc (by simp; omega) _), (((BoxAt.new _ _ _).alloc _).alloc _).alloc _, ((BoxAt.new' (by simp)).alloc _).alloc _, (BoxAt.new' (by simp)).alloc _, BoxAt.new' (by simp)⟩ ?_
 rintro W0 ⟨hB, hx, hy, hz, hw_⟩
 have lw0 := hw_.lt
 have hs0 := hs.below hB hh
 have kx := hx.cell
 have ky := hy.cell
 have fy := hy.frozen
 go_wp2_with fail
 clear kx ky fy
 refine (sswing_any s A n cap lo hi true r t _ hs0 (Nat.le_trans hh hB.size) (by have := HNT.out.2.1; have := HLN.out; omega) HNT.out.len).mono ?_
 rintro e w1 ⟨A5, n5, c5, rfl, hG5, hb5⟩
 replace hx := hx.below hb5 hx.lt
 replace hy := hy.below hb5 hy.lt
 replace hz := hz.below hb5 hz.lt
 replace hw_ := hw_.below hb5 hw_.lt
 have h5 := hb5.size
 replace hB := bstep hB hB.size hb5
 clear hb5
 generalize hq5 : swing s true r t = q at *
 have HQ5 := Lib.hid hq5; clear hq5
 unfold stV
 have kx := hx.cell
 have fx := hx.frozen
 have ky := hy.cell
 have fy := hy.frozen
 go_upto_region 50 with fail
 have HV := Lib.hid (show put3 s ⟨3, v, r, t, seen, tr, sp, ag, re⟩ = (q.1, (⟨1, v, r, t, seen, tr, sp, ag, re⟩ : Hd), ((⟨1, v, r, t, seen, tr, sp, ag, re⟩ : Hd)).ok) by rw [← HQ5.out]; rfl)
 refine p6T_wp w q.1 W0.heap.size w1.heap.size A5 n5 c5 (⟨1, v, r, t, seen, tr, sp, ag, re⟩ : Hd) (by kernel_rfl) (by omega) ⟨(sc ((sc (sc (sc (sc (sc hB))))))), ((sets_all (us := (aS q.1 A5 n5 c5)) hx rfl).sn), by simpa using (((((((hy.sn).sn).sn).sn).sn)).set 0 (.int .i64 1)), (((((((hz.sn).sn).sn).sn).sn)).sn), (((((((hw_.sn).sn).sn).sn).sn)).sn), (((((((hG5.sl).sl).sl).sl).sl)).sl), by simp⟩ ?_
 have hQR : w.heap.size + 4 ≤ W0.heap.size := by omega
 clear kx fx ky fy hB hx hy hz hw_ hG5
 generalize hq2 : (⟨1, v, r, t, seen, tr, sp, ag, re⟩ : Hd) = h2 at *
 clear hq2
 intro _ _ _ _ _ _ _ W' hB k7 k8 hG _
 replace k7 := k7.cell
 replace k8 := k8.cell
 go_step
 go_wp2
 refine bodyPost_ret (v := .tuple #[stV q.1 A5 n5 c5, hdV h2, .bool (h2.ok)]) (by simp [results, Tryz.results91, go_sem, k7, k8, stV, hdV]) rfl ⟨A5, n5, c5, by rw [HV.out], ?_, hB⟩
 rw [HV.out]
 exact hG.cut.mono (by omega) (Nat.le_refl _)
set_option maxRecDepth 100000 in
set_option maxHeartbeats 4000000 in
theorem l6Put_9 (s : St) (A : Option Addr) (n cap lo hi : Nat) (v r t : Int) (seen : Pl) (tr sp : Int) (ag : Bool) (re : Int) (w : World) (hs : RgsW lo hi w A n cap s.rs) (hh : hi ≤ w.heap.size) (hlo : lo ≤ w.heap.size) (hok : stOk s = true) (hrb : ringB s r = true) :
  Calls Tryz.prog 91 #[stV s A n cap, hdV ⟨9, v, r, t, seen, tr, sp, ag, re⟩] w (RetSHB lo (put9 s ⟨9, v, r, t, seen, tr, sp, ag, re⟩) w) := by
 have HOK := Lib.hid hok
 have HRB := Lib.hid hrb
 have HLN := Lib.hid hs.1
 have HNT := Lib.hid (stOk_neat hok)
 obtain ⟨z0, z1, z2⟩ := ringB_at HLN.out hrb
 clear hok hrb
 unfold stV hdV
 dsimp only
 go_enter Tryz.func91, Tryz.ntmps91
 go_upto_region 48 with fail
 refine wp_abs (fun W => Below w.heap.size w W ∧ BoxAt W w.heap.size (aS s A n cap) 58 ∧ BoxAt W (w.heap.size + 1) (dH 9 v r t seen tr sp ag re) 97 ∧ BoxAt W (w.heap.size + 1 + 1) zS 58 ∧ BoxAt W (w.heap.size + 1 + 1 + 1) zH 97) ⟨(((((Below.refl _ _).alloc (Nat.le_refl _) _).alloc (by simp) _).alloc (by simp; omega) _).alloc (by simp; omega) _), (((BoxAt.new _ _ _).alloc _).alloc _).alloc _, ((BoxAt.new' (by simp)).alloc _).alloc _, (BoxAt.new' (by simp)).alloc _, BoxAt.new' (by simp)⟩ ?_
 rintro W0 ⟨hB, hx, hy, hz, hw_⟩
 have lw0 := hw_.lt
 have hs0 := hs.below hB hh
 have kx := hx.cell
 have ky := hy.cell
 have fy := hy.frozen
 go_wp2_with fail
 clear kx ky fy
 refine (sclose_any s A n cap lo hi r _ hs0 (Nat.le_trans hh hB.size) (by have := HNT.out.2.1; have := HLN.out; omega) HNT.out.len).mono ?_
 rintro e w1 ⟨A5, n5, c5, rfl, hG5, hb5⟩
 replace hx := hx.below hb5 hx.lt
 replace hy := hy.below hb5 hy.lt
 replace hz := hz.below hb5 hz.lt
 replace hw_ := hw_.below hb5 hw_.lt
 have h5 := hb5.size
 replace hB := bstep hB hB.size hb5
 clear hb5
 generalize hq5 : closeR s r = q at *
 have HQ5 := Lib.hid hq5; clear hq5
 unfold stV
 have kx := hx.cell
 have fx := hx.frozen
 have ky := hy.cell
 have fy := hy.frozen
 go_upto_region 50 with fail
 have HV := Lib.hid (show put9 s ⟨9, v, r, t, seen, tr, sp, ag, re⟩ = (q.1, (⟨10, v, r, t, seen, tr, sp, ag, re⟩ : Hd), ((⟨10, v, r, t, seen, tr, sp, ag, re⟩ : Hd)).ok) by rw [← HQ5.out]; rfl)
 refine p6T_wp w q.1 W0.heap.size w1.heap.size A5 n5 c5 (⟨10, v, r, t, seen, tr, sp, ag, re⟩ : Hd) (by kernel_rfl) (by omega) ⟨(sc ((sc (sc (sc (sc (sc hB))))))), ((sets_all (us := (aS q.1 A5 n5 c5)) hx rfl).sn), by simpa using (((((((hy.sn).sn).sn).sn).sn)).set 0 (.int .i64 10)), (((((((hz.sn).sn).sn).sn).sn)).sn), (((((((hw_.sn).sn).sn).sn).sn)).sn), (((((((hG5.sl).sl).sl).sl).sl)).sl), by simp⟩ ?_
 have hQR : w.heap.size + 4 ≤ W0.heap.size := by omega
 clear kx fx ky fy hB hx hy hz hw_ hG5
 generalize hq2 : (⟨10, v, r, t, seen, tr, sp, ag, re⟩ : Hd) = h2 at *
 clear hq2
 intro _ _ _ _ _ _ _ W' hB k7 k8 hG _
 replace k7 := k7.cell
 replace k8 := k8.cell
 go_step
 go_wp2
 refine bodyPost_ret (v := .tuple #[stV q.1 A5 n5 c5, hdV h2, .bool (h2.ok)]) (by simp [results, Tryz.results91, go_sem, k7, k8, stV, hdV]) rfl ⟨A5, n5, c5, by rw [HV.out], ?_, hB⟩
 rw [HV.out]
 exact hG.cut.mono (by omega) (Nat.le_refl _)
end Go.Proofs.YtplgabogdeeohaaGreat
