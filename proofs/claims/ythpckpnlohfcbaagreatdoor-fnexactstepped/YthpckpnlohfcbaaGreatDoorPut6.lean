/-
 The walk of a step of one who puts, of the model: all but the last three.
-/
import Derived.Test.YthpckpnlohfcbaaGreatDoorTail
namespace Go.Proofs.YthpckpnlohfcbaaGreatDoor
set_option linter.unusedSimpArgs false
set_option linter.unusedVariables false
open Go.RowKit
set_option linter.unusedVariables false
attribute [local go_sem] OpUpon
attribute [local go_sem ↓] Go.wp_at_zero Go.wp_at_succ
theorem zput60 {p : Prop} (h : p := by
 clear hq2
 intro _ _ _ _ _ _ _ W' hB k7 k8 hG _
 replace k7 := k7.cell
 replace k8 := k8.cell
 go_step
 go_wp2
 refine bodyPost_ret (v := .tuple #[stV s (some ⟨b, 0, none⟩) n cap, hdV h2, .bool (h2.ok)]) (by simp [results, Tryz.results50, go_sem, k7, k8, stV, hdV]) rfl ⟨(some ⟨b, 0, none⟩), n, cap, by rw [HV.out], ?_, hB⟩
 rw [HV.out]
 exact hG.cut.mono (by omega) (Nat.le_refl _)) : p := h -- a32d39e2
theorem zput61 {p : Prop} (h : p := by
 clear hq2
 intro _ _ _ _ _ _ _ W' hB k7 k8 hG _
 replace k7 := k7.cell
 replace k8 := k8.cell
 go_step
 go_wp2
 refine bodyPost_ret (v := .tuple #[stV q.1 A5 n5 c5, hdV h2, .bool (h2.ok)]) (by simp [results, Tryz.results50, go_sem, k7, k8, stV, hdV]) rfl ⟨A5, n5, c5, by rw [HV.out], ?_, hB⟩
 rw [HV.out]
 exact hG.cut.mono (by omega) (Nat.le_refl _)) : p := h -- 1eb3d318
theorem zput62 {p : Prop} (h : p := by
 clear hw hcl hL hC
 refine OpGoes.go fun K hK => ?_
 go_simp
 exact hK _ _ ⟨rfl, rfl⟩) : p := h -- ee92c020
theorem zput63 {p : Prop} (h : p := by
 clear hq2
 intro _ _ _ _ _ _ _ W' hB k7 k8 hG _
 replace k7 := k7.cell
 replace k8 := k8.cell
 go_step
 go_wp2
 refine bodyPost_ret (v := .tuple #[stV q.1 A5 n5 c5, hdV h2, .bool (false)]) (by simp [results, Tryz.results50, go_sem, k7, k8, stV, hdV]) rfl ⟨A5, n5, c5, by rw [HV.out], ?_, hB⟩
 rw [HV.out]
 exact hG.cut.mono (by omega) (Nat.le_refl _)) : p := h -- 915e6ef4

def put1 (s : St) (h : Hd) : St × Hd × Bool := fin true s { h with r := s.la, at_ := 2 }
def put2 (s : St) (h : Hd) : St × Hd × Bool := fin true s (if 0 ≤ (s.at h.r).x then { h with t := (s.at h.r).x, at_ := 3 } else { h with at_ := 4 })
def put3 (s : St) (h : Hd) : St × Hd × Bool := fin true (swing s true h.r h.t).1 { h with at_ := 1 }
def put4 (s : St) (h : Hd) : St × Hd × Bool := fin (decide (0 ≤ (putTicket s h.r).2)) (putTicket s h.r).1 { h with t := (putTicket s h.r).2, at_ := if (s.at h.r).c then 10 else 5 }
def put6 (s : St) (h : Hd) : St × Hd × Bool := fin true s { h with at_ := if (s.at h.r).h ≤ h.t then 7 else 8 }
def put9 (s : St) (h : Hd) : St × Hd × Bool := fin true (closeR s h.r).1 { h with at_ := 10 }
set_option maxRecDepth 100000 in
set_option maxHeartbeats 4000000 in
theorem l6Put_1 (s : St) (A : Option Addr) (n cap lo hi : Nat) (v r t : Int) (seen : Pl) (tr sp : Int) (ag : Bool) (re : Int) (w : World) (hs : RgsW lo hi w A n cap s.rs) (hh : hi ≤ w.heap.size) (hlo : lo ≤ w.heap.size) (hok : stOk s = true) (hrb : ringB s r = true) :
  Calls Tryz.prog 50 #[stV s A n cap, hdV ⟨1, v, r, t, seen, tr, sp, ag, re⟩] w (RetSHB lo (put1 s ⟨1, v, r, t, seen, tr, sp, ag, re⟩) w) := by
 have HOK := Lib.hid hok
 have HRB := Lib.hid hrb
 have HLN := Lib.hid hs.1
 have HNT := Lib.hid (stOk_neat hok)
 obtain ⟨z0, z1, z2⟩ := ringB_at HLN.out hrb
 clear hok hrb
 unfold stV hdV
 dsimp only
 go_enter Tryz.func50, Tryz.ntmps50
 go_upto_region 7 with fail
 refine wp_abs (fun W => Below w.heap.size w W ∧ BoxAt W w.heap.size (aS s A n cap) 32 ∧ BoxAt W (w.heap.size + 1) (dH 1 v r t seen tr sp ag re) 35 ∧ BoxAt W (w.heap.size + 1 + 1) zS 32 ∧ BoxAt W (w.heap.size + 1 + 1 + 1) zH 35) ⟨(((((Below.refl _ _).alloc (Nat.le_refl _) _).alloc (by simp) _).alloc (by simp; omega) _).alloc (by simp; omega) _), (((BoxAt.new _ _ _).alloc _).alloc _).alloc _, ((BoxAt.new' (by simp)).alloc _).alloc _, (BoxAt.new' (by simp)).alloc _, BoxAt.new' (by simp)⟩ ?_
 rintro W0 ⟨hB, hx, hy, hz, hw_⟩
 have lw0 := hw_.lt
 have hs0 := hs.below hB hh
 have kx := hx.cell
 have ky := hy.cell
 have fy := hy.frozen
 go_upto_region 50 with fail
 have HV := Lib.hid (show put1 s ⟨1, v, r, t, seen, tr, sp, ag, re⟩ = (s, (⟨2, v, s.la, t, seen, tr, sp, ag, re⟩ : Hd), ((⟨2, v, s.la, t, seen, tr, sp, ag, re⟩ : Hd)).ok) by rfl)
 refine p6T_wp w s lo hi A n cap (⟨2, v, s.la, t, seen, tr, sp, ag, re⟩ : Hd) (by kernel_rfl) (by omega) ⟨(sc (sc hB)), ((hx.sn).sn), by simpa using ((hy.set 2 (.int .i64 s.la)).set 0 (.int .i64 2)), ((hz.sn).sn), ((hw_.sn).sn), ((hs0.sr).sr), by simp; omega⟩ ?_
 clear kx ky fy hB hx hy hz hw_ hs0
 generalize hq2 : (⟨2, v, s.la, t, seen, tr, sp, ag, re⟩ : Hd) = h2 at *
 clear hq2
 intro _ _ _ _ _ _ _ W' hB k7 k8 hG _
 replace k7 := k7.cell
 replace k8 := k8.cell
 go_step
 go_wp2
 refine bodyPost_ret (v := .tuple #[stV s A n cap, hdV h2, .bool (h2.ok)]) (by simp [results, Tryz.results50, go_sem, k7, k8, stV, hdV]) rfl ⟨A, n, cap, by rw [HV.out], ?_, hB⟩
 rw [HV.out]
 exact hG.cut.mono (by omega) (Nat.le_refl _)
set_option maxRecDepth 100000 in
set_option maxHeartbeats 4000000 in
theorem l6Put_2 (s : St) (A : Option Addr) (n cap lo hi : Nat) (v r t : Int) (seen : Pl) (tr sp : Int) (ag : Bool) (re : Int) (w : World) (hs : RgsW lo hi w A n cap s.rs) (hh : hi ≤ w.heap.size) (hlo : lo ≤ w.heap.size) (hok : stOk s = true) (hrb : ringB s r = true) :
  Calls Tryz.prog 50 #[stV s A n cap, hdV ⟨2, v, r, t, seen, tr, sp, ag, re⟩] w (RetSHB lo (put2 s ⟨2, v, r, t, seen, tr, sp, ag, re⟩) w) := by
 have HOK := Lib.hid hok
 have HRB := Lib.hid hrb
 have HLN := Lib.hid hs.1
 have HNT := Lib.hid (stOk_neat hok)
 obtain ⟨z0, z1, z2⟩ := ringB_at HLN.out hrb
 clear hok hrb
 unfold stV hdV
 dsimp only
 go_enter Tryz.func50, Tryz.ntmps50
 go_upto_region 10 with fail
 refine wp_abs (fun W => Below w.heap.size w W ∧ BoxAt W w.heap.size (aS s A n cap) 32 ∧ BoxAt W (w.heap.size + 1) (dH 2 v r t seen tr sp ag re) 35 ∧ BoxAt W (w.heap.size + 1 + 1) zS 32 ∧ BoxAt W (w.heap.size + 1 + 1 + 1) zH 35) ⟨(((((Below.refl _ _).alloc (Nat.le_refl _) _).alloc (by simp) _).alloc (by simp; omega) _).alloc (by simp; omega) _), (((BoxAt.new _ _ _).alloc _).alloc _).alloc _, ((BoxAt.new' (by simp)).alloc _).alloc _, (BoxAt.new' (by simp)).alloc _, BoxAt.new' (by simp)⟩ ?_
 rintro W0 ⟨hB, hx, hy, hz, hw_⟩
 have lw0 := hw_.lt
 have hs0 := hs.below hB hh
 have kx := hx.cell
 have ky := hy.cell
 have fy := hy.frozen
 obtain ⟨b, rg, A', n', cap', rfl, hlb, hbh, hri, c0, c1', c2, c3, c4, hpw⟩ := hs0.at_ z2
 have HAT := Lib.hid (St.at_some (s := s) (z := r) hri)
 have hnum := stOk_nums HOK.out rg (List.mem_of_getElem? hri)
 clear hri
 by_cases hx0 : 0 ≤ rg.x
 ·
  have HV0 := Lib.hid hx0
  go_upto_region 50 with fail
  clear c0 c1' c2 c3 c4 hpw hnum
  have HV := Lib.hid (show put2 s ⟨2, v, r, t, seen, tr, sp, ag, re⟩ = (s, (⟨3, v, r, rg.x, seen, tr, sp, ag, re⟩ : Hd), ((⟨3, v, r, rg.x, seen, tr, sp, ag, re⟩ : Hd)).ok) by simp only [put2, HAT.out, HV0.out, if_true]; rfl)
  refine p6T_wp w s lo hi (some ⟨b, 0, none⟩) n cap (⟨3, v, r, rg.x, seen, tr, sp, ag, re⟩ : Hd) (by kernel_rfl) (by omega) ⟨(sc (sc (sc hB))), (((hx.sn).sn).sn), by simpa using (((hy.set 0 (.int .i64 4)).set 3 (.int .i64 rg.x)).set 0 (.int .i64 3)), (((hz.sn).sn).sn), (((hw_.sn).sn).sn), (((hs0.sr).sr).sr), by simp; omega⟩ ?_
  clear kx ky fy hB hx hy hz hw_ hs0
  generalize hq2 : (⟨3, v, r, rg.x, seen, tr, sp, ag, re⟩ : Hd) = h2 at *
  exact zput60
 ·
  have HV0 := Lib.hid hx0
  go_upto_region 50 with fail
  clear c0 c1' c2 c3 c4 hpw hnum
  have HV := Lib.hid (show put2 s ⟨2, v, r, t, seen, tr, sp, ag, re⟩ = (s, (⟨4, v, r, t, seen, tr, sp, ag, re⟩ : Hd), ((⟨4, v, r, t, seen, tr, sp, ag, re⟩ : Hd)).ok) by simp only [put2, HAT.out, HV0.out, if_false]; rfl)
  refine p6T_wp w s lo hi (some ⟨b, 0, none⟩) n cap (⟨4, v, r, t, seen, tr, sp, ag, re⟩ : Hd) (by kernel_rfl) (by omega) ⟨(sc hB), (hx.sn), by simpa using (hy.set 0 (.int .i64 4)), (hz.sn), (hw_.sn), (hs0.sr), by simp; omega⟩ ?_
  clear kx ky fy hB hx hy hz hw_ hs0
  generalize hq2 : (⟨4, v, r, t, seen, tr, sp, ag, re⟩ : Hd) = h2 at *
  exact zput60
set_option maxRecDepth 100000 in
set_option maxHeartbeats 4000000 in
theorem l6Put_6 (s : St) (A : Option Addr) (n cap lo hi : Nat) (v r t : Int) (seen : Pl) (tr sp : Int) (ag : Bool) (re : Int) (w : World) (hs : RgsW lo hi w A n cap s.rs) (hh : hi ≤ w.heap.size) (hlo : lo ≤ w.heap.size) (hok : stOk s = true) (hrb : ringB s r = true) :
  Calls Tryz.prog 50 #[stV s A n cap, hdV ⟨6, v, r, t, seen, tr, sp, ag, re⟩] w (RetSHB lo (put6 s ⟨6, v, r, t, seen, tr, sp, ag, re⟩) w) := by
 have HOK := Lib.hid hok
 have HRB := Lib.hid hrb
 have HLN := Lib.hid hs.1
 have HNT := Lib.hid (stOk_neat hok)
 obtain ⟨z0, z1, z2⟩ := ringB_at HLN.out hrb
 clear hok hrb
 unfold stV hdV
 dsimp only
 go_enter Tryz.func50, Tryz.ntmps50
 go_upto_region 33 with fail
 refine wp_abs (fun W => Below w.heap.size w W ∧ BoxAt W w.heap.size (aS s A n cap) 32 ∧ BoxAt W (w.heap.size + 1) (dH 6 v r t seen tr sp ag re) 35 ∧ BoxAt W (w.heap.size + 1 + 1) zS 32 ∧ BoxAt W (w.heap.size + 1 + 1 + 1) zH 35) ⟨(((((Below.refl _ _).alloc (Nat.le_refl _) _).alloc (by simp) _).alloc (by simp; omega) _).alloc (by simp; omega) _), (((BoxAt.new _ _ _).alloc _).alloc _).alloc _, ((BoxAt.new' (by simp)).alloc _).alloc _, (BoxAt.new' (by simp)).alloc _, BoxAt.new' (by simp)⟩ ?_
 rintro W0 ⟨hB, hx, hy, hz, hw_⟩
 have lw0 := hw_.lt
 have hs0 := hs.below hB hh
 have kx := hx.cell
 have ky := hy.cell
 have fy := hy.frozen
 obtain ⟨b, rg, A', n', cap', rfl, hlb, hbh, hri, c0, c1', c2, c3, c4, hpw⟩ := hs0.at_ z2
 have HAT := Lib.hid (St.at_some (s := s) (z := r) hri)
 have hnum := stOk_nums HOK.out rg (List.mem_of_getElem? hri)
 clear hri
 by_cases hx0 : rg.h ≤ t
 ·
  have HV0 := Lib.hid hx0
  go_upto_region 50 with fail
  clear c0 c1' c2 c3 c4 hpw hnum
  have HV := Lib.hid (show put6 s ⟨6, v, r, t, seen, tr, sp, ag, re⟩ = (s, (⟨7, v, r, t, seen, tr, sp, ag, re⟩ : Hd), ((⟨7, v, r, t, seen, tr, sp, ag, re⟩ : Hd)).ok) by simp only [put6, HAT.out, HV0.out, if_true]; rfl)
  refine p6T_wp w s lo hi (some ⟨b, 0, none⟩) n cap (⟨7, v, r, t, seen, tr, sp, ag, re⟩ : Hd) (by kernel_rfl) (by omega) ⟨(sc (sc hB)), ((hx.sn).sn), by simpa using ((hy.set 0 (.int .i64 8)).set 0 (.int .i64 7)), ((hz.sn).sn), ((hw_.sn).sn), ((hs0.sr).sr), by simp; omega⟩ ?_
  clear kx ky fy hB hx hy hz hw_ hs0
  generalize hq2 : (⟨7, v, r, t, seen, tr, sp, ag, re⟩ : Hd) = h2 at *
  exact zput60
 ·
  have HV0 := Lib.hid hx0
  go_upto_region 50 with fail
  clear c0 c1' c2 c3 c4 hpw hnum
  have HV := Lib.hid (show put6 s ⟨6, v, r, t, seen, tr, sp, ag, re⟩ = (s, (⟨8, v, r, t, seen, tr, sp, ag, re⟩ : Hd), ((⟨8, v, r, t, seen, tr, sp, ag, re⟩ : Hd)).ok) by simp only [put6, HAT.out, HV0.out, if_false]; rfl)
  refine p6T_wp w s lo hi (some ⟨b, 0, none⟩) n cap (⟨8, v, r, t, seen, tr, sp, ag, re⟩ : Hd) (by kernel_rfl) (by omega) ⟨(sc hB), (hx.sn), by simpa using (hy.set 0 (.int .i64 8)), (hz.sn), (hw_.sn), (hs0.sr), by simp; omega⟩ ?_
  clear kx ky fy hB hx hy hz hw_ hs0
  generalize hq2 : (⟨8, v, r, t, seen, tr, sp, ag, re⟩ : Hd) = h2 at *
  exact zput60
set_option maxRecDepth 100000 in
set_option maxHeartbeats 4000000 in
theorem l6Put_3 (s : St) (A : Option Addr) (n cap lo hi : Nat) (v r t : Int) (seen : Pl) (tr sp : Int) (ag : Bool) (re : Int) (w : World) (hs : RgsW lo hi w A n cap s.rs) (hh : hi ≤ w.heap.size) (hlo : lo ≤ w.heap.size) (hok : stOk s = true) (hrb : ringB s r = true) :
  Calls Tryz.prog 50 #[stV s A n cap, hdV ⟨3, v, r, t, seen, tr, sp, ag, re⟩] w (RetSHB lo (put3 s ⟨3, v, r, t, seen, tr, sp, ag, re⟩) w) := by
 have HOK := Lib.hid hok
 have HRB := Lib.hid hrb
 have HLN := Lib.hid hs.1
 have HNT := Lib.hid (stOk_neat hok)
 obtain ⟨z0, z1, z2⟩ := ringB_at HLN.out hrb
 clear hok hrb
 unfold stV hdV
 dsimp only
 go_enter Tryz.func50, Tryz.ntmps50
 go_upto_region 16 with fail
 refine wp_abs (fun W => Below w.heap.size w W ∧ BoxAt W w.heap.size (aS s A n cap) 32 ∧ BoxAt W (w.heap.size + 1) (dH 3 v r t seen tr sp ag re) 35 ∧ BoxAt W (w.heap.size + 1 + 1) zS 32 ∧ BoxAt W (w.heap.size + 1 + 1 + 1) zH 35) ⟨(((((Below.refl _ _).alloc (Nat.le_refl _) _).alloc (by simp) _).alloc (by simp; omega) _).alloc (by simp; omega) _), (((BoxAt.new _ _ _).alloc _).alloc _).alloc _, ((BoxAt.new' (by simp)).alloc _).alloc _, (BoxAt.new' (by simp)).alloc _, BoxAt.new' (by simp)⟩ ?_
 rintro W0 ⟨hB, hx, hy, hz, hw_⟩
 have lw0 := hw_.lt
 have hs0 := hs.below hB hh
 have kx := hx.cell
 have ky := hy.cell
 have fy := hy.frozen
 go_wp2_with fail
 clear kx ky fy
 refine (sswing_any s A n cap lo hi true r t _ hs0 (Nat.le_trans hh hB.size) (by have := HNT.out.2.1; have := HLN.out; omega) HNT.out.len).mono ?_
 rintro e w1 ⟨A5, n5, c5, rfl, hG5, hb5⟩
 replace hx := hx.below hb5 hx.lt
 replace hy := hy.below hb5 hy.lt
 replace hz := hz.below hb5 hz.lt
 replace hw_ := hw_.below hb5 hw_.lt
 have h5 := hb5.size
 replace hB := bstep hB hB.size hb5
 clear hb5
 generalize hq5 : swing s true r t = q at *
 have HQ5 := Lib.hid hq5; clear hq5
 unfold stV
 have kx := hx.cell
 have fx := hx.frozen
 have ky := hy.cell
 have fy := hy.frozen
 go_upto_region 50 with fail
 have HV := Lib.hid (show put3 s ⟨3, v, r, t, seen, tr, sp, ag, re⟩ = (q.1, (⟨1, v, r, t, seen, tr, sp, ag, re⟩ : Hd), ((⟨1, v, r, t, seen, tr, sp, ag, re⟩ : Hd)).ok) by rw [← HQ5.out]; rfl)
 refine p6T_wp w q.1 W0.heap.size w1.heap.size A5 n5 c5 (⟨1, v, r, t, seen, tr, sp, ag, re⟩ : Hd) (by kernel_rfl) (by omega) ⟨(sc ((sc (sc (sc (sc (sc hB))))))), ((sets_all (us := (aS q.1 A5 n5 c5)) hx rfl).sn), by simpa using (((((((hy.sn).sn).sn).sn).sn)).set 0 (.int .i64 1)), (((((((hz.sn).sn).sn).sn).sn)).sn), (((((((hw_.sn).sn).sn).sn).sn)).sn), (((((((hG5.sl).sl).sl).sl).sl)).sl), by simp⟩ ?_
 have hQR : w.heap.size + 4 ≤ W0.heap.size := by omega
 clear kx fx ky fy hB hx hy hz hw_ hG5
 generalize hq2 : (⟨1, v, r, t, seen, tr, sp, ag, re⟩ : Hd) = h2 at *
 exact zput61
set_option maxRecDepth 100000 in
set_option maxHeartbeats 4000000 in
theorem l6Put_9 (s : St) (A : Option Addr) (n cap lo hi : Nat) (v r t : Int) (seen : Pl) (tr sp : Int) (ag : Bool) (re : Int) (w : World) (hs : RgsW lo hi w A n cap s.rs) (hh : hi ≤ w.heap.size) (hlo : lo ≤ w.heap.size) (hok : stOk s = true) (hrb : ringB s r = true) :
  Calls Tryz.prog 50 #[stV s A n cap, hdV ⟨9, v, r, t, seen, tr, sp, ag, re⟩] w (RetSHB lo (put9 s ⟨9, v, r, t, seen, tr, sp, ag, re⟩) w) := by
 have HOK := Lib.hid hok
 have HRB := Lib.hid hrb
 have HLN := Lib.hid hs.1
 have HNT := Lib.hid (stOk_neat hok)
 obtain ⟨z0, z1, z2⟩ := ringB_at HLN.out hrb
 clear hok hrb
 unfold stV hdV
 dsimp only
 go_enter Tryz.func50, Tryz.ntmps50
 go_upto_region 48 with fail
 refine wp_abs (fun W => Below w.heap.size w W ∧ BoxAt W w.heap.size (aS s A n cap) 32 ∧ BoxAt W (w.heap.size + 1) (dH 9 v r t seen tr sp ag re) 35 ∧ BoxAt W (w.heap.size + 1 + 1) zS 32 ∧ BoxAt W (w.heap.size + 1 + 1 + 1) zH 35) ⟨(((((Below.refl _ _).alloc (Nat.le_refl _) _).alloc (by simp) _).alloc (by simp; omega) _).alloc (by simp; omega) _), (((BoxAt.new _ _ _).alloc _).alloc _).alloc _, ((BoxAt.new' (by simp)).alloc _).alloc _, (BoxAt.new' (by simp)).alloc _, BoxAt.new' (by simp)⟩ ?_
 rintro W0 ⟨hB, hx, hy, hz, hw_⟩
 have lw0 := hw_.lt
 have hs0 := hs.below hB hh
 have kx := hx.cell
 have ky := hy.cell
 have fy := hy.frozen
 go_wp2_with fail
 clear kx ky fy
 refine (sclose_any s A n cap lo hi r _ hs0 (Nat.le_trans hh hB.size) (by have := HNT.out.2.1; have := HLN.out; omega) HNT.out.len).mono ?_
 rintro e w1 ⟨A5, n5, c5, rfl, hG5, hb5⟩
 replace hx := hx.below hb5 hx.lt
 replace hy := hy.below hb5 hy.lt
 replace hz := hz.below hb5 hz.lt
 replace hw_ := hw_.below hb5 hw_.lt
 have h5 := hb5.size
 replace hB := bstep hB hB.size hb5
 clear hb5
 generalize hq5 : closeR s r = q at *
 have HQ5 := Lib.hid hq5; clear hq5
 unfold stV
 have kx := hx.cell
 have fx := hx.frozen
 have ky := hy.cell
 have fy := hy.frozen
 go_upto_region 50 with fail
 have HV := Lib.hid (show put9 s ⟨9, v, r, t, seen, tr, sp, ag, re⟩ = (q.1, (⟨10, v, r, t, seen, tr, sp, ag, re⟩ : Hd), ((⟨10, v, r, t, seen, tr, sp, ag, re⟩ : Hd)).ok) by rw [← HQ5.out]; rfl)
 refine p6T_wp w q.1 W0.heap.size w1.heap.size A5 n5 c5 (⟨10, v, r, t, seen, tr, sp, ag, re⟩ : Hd) (by kernel_rfl) (by omega) ⟨(sc ((sc (sc (sc (sc (sc hB))))))), ((sets_all (us := (aS q.1 A5 n5 c5)) hx rfl).sn), by simpa using (((((((hy.sn).sn).sn).sn).sn)).set 0 (.int .i64 10)), (((((((hz.sn).sn).sn).sn).sn)).sn), (((((((hw_.sn).sn).sn).sn).sn)).sn), (((((((hG5.sl).sl).sl).sl).sl)).sl), by simp⟩ ?_
 have hQR : w.heap.size + 4 ≤ W0.heap.size := by omega
 clear kx fx ky fy hB hx hy hz hw_ hG5
 generalize hq2 : (⟨10, v, r, t, seen, tr, sp, ag, re⟩ : Hd) = h2 at *
 exact zput61
end Go.Proofs.YthpckpnlohfcbaaGreatDoor
namespace Go.Proofs.YthpckpnlohfcbaaGreatDoor
set_option linter.unusedSimpArgs false
set_option linter.unusedVariables false
open Go.RowKit
set_option linter.unusedVariables false
attribute [local go_sem] OpUpon
attribute [local go_sem ↓] Go.wp_at_zero Go.wp_at_succ
def put8 (s : St) (h : Hd) : St × Hd × Bool := fin true s { h with tr := h.tr + 1, at_ := if s.rd ≤ h.t - (s.at h.r).h ∨ 4 ≤ h.tr + 1 then 9 else 4 }
set_option maxRecDepth 100000 in
set_option maxHeartbeats 4000000 in
theorem l6Put_4 (s : St) (A : Option Addr) (n cap lo hi : Nat) (v r t : Int) (seen : Pl) (tr sp : Int) (ag : Bool) (re : Int) (w : World) (hs : RgsW lo hi w A n cap s.rs) (hh : hi ≤ w.heap.size) (hlo : lo ≤ w.heap.size) (hok : stOk s = true) (hrb : ringB s r = true) :
  Calls Tryz.prog 50 #[stV s A n cap, hdV ⟨4, v, r, t, seen, tr, sp, ag, re⟩] w (RetSHB lo (put4 s ⟨4, v, r, t, seen, tr, sp, ag, re⟩) w) := by
 have HOK := Lib.hid hok
 have HRB := Lib.hid hrb
 have HLN := Lib.hid hs.1
 have HNT := Lib.hid (stOk_neat hok)
 obtain ⟨z0, z1, z2⟩ := ringB_at HLN.out hrb
 clear hok hrb
 unfold stV hdV
 dsimp only
 go_enter Tryz.func50, Tryz.ntmps50
 go_upto_region 19 with fail
 refine wp_abs (fun W => Below w.heap.size w W ∧ BoxAt W w.heap.size (aS s A n cap) 32 ∧ BoxAt W (w.heap.size + 1) (dH 4 v r t seen tr sp ag re) 35 ∧ BoxAt W (w.heap.size + 1 + 1) zS 32 ∧ BoxAt W (w.heap.size + 1 + 1 + 1) zH 35) ⟨(((((Below.refl _ _).alloc (Nat.le_refl _) _).alloc (by simp) _).alloc (by simp; omega) _).alloc (by simp; omega) _), (((BoxAt.new _ _ _).alloc _).alloc _).alloc _, ((BoxAt.new' (by simp)).alloc _).alloc _, (BoxAt.new' (by simp)).alloc _, BoxAt.new' (by simp)⟩ ?_
 rintro W0 ⟨hB, hx, hy, hz, hw_⟩
 have lw0 := hw_.lt
 have hs0 := hs.below hB hh
 have kx := hx.cell
 have ky := hy.cell
 have fy := hy.frozen
 obtain ⟨b, rg, A', n', cap', rfl, hlb, hbh, hri, c0, c1', c2, c3, c4, hpw⟩ := hs0.at_ z2
 have HAT := Lib.hid (St.at_some (s := s) (z := r) hri)
 have hnum := stOk_nums HOK.out rg (List.mem_of_getElem? hri)
 clear hri
 clear c0 c1' c3 c4 hpw hnum
 cases hcl : rg.c
 ·
  rw [hcl] at c2
  go_wp2_with fail
  clear kx ky fy c2
  refine (sputTicket_any s (some ⟨b, 0, none⟩) n cap lo hi r _ hs0 (Nat.le_trans hh hB.size) (by have := HNT.out.2.1; have := HLN.out; omega) HNT.out.len).mono ?_
  rintro e w1 ⟨A5, n5, c5, rfl, hG5, hb5⟩
  replace hx := hx.below hb5 hx.lt
  replace hy := hy.below hb5 hy.lt
  replace hz := hz.below hb5 hz.lt
  replace hw_ := hw_.below hb5 hw_.lt
  have h5 := hb5.size
  replace hB := bstep hB hB.size hb5
  clear hb5
  generalize hq5 : putTicket s r = q at *
  have HQ5 := Lib.hid hq5; clear hq5
  have HCL := Lib.hid hcl; clear hcl
  unfold stV
  have kx := hx.cell
  have fx := hx.frozen
  have ky := hy.cell
  have fy := hy.frozen
  by_cases hq0 : 0 ≤ q.2
  ·
   have hq0d : decide (0 ≤ q.2) = true := by simpa using hq0
   have HQ0 := Lib.hid hq0d
   go_upto_region 50 with fail
   clear hq0d
   have HV := Lib.hid (show put4 s ⟨4, v, r, t, seen, tr, sp, ag, re⟩ = (q.1, (⟨5, v, r, q.2, seen, tr, sp, ag, re⟩ : Hd), ((⟨5, v, r, q.2, seen, tr, sp, ag, re⟩ : Hd)).ok) by simp only [put4, HQ5.out, HAT.out, HCL.out, fin, HQ0.out]; rfl)
   refine p6T_wp w q.1 W0.heap.size w1.heap.size A5 n5 c5 (⟨5, v, r, q.2, seen, tr, sp, ag, re⟩ : Hd) (by kernel_rfl) (by omega) ⟨(sc (sc ((sc (sc (sc (sc (sc hB)))))))), (((sets_all (us := (aS q.1 A5 n5 c5)) hx rfl).sn).sn), by simpa using ((((((((hy.sn).sn).sn).sn).sn)).set 3 (.int .i64 q.2)).set 0 (.int .i64 5)), ((((((((hz.sn).sn).sn).sn).sn)).sn).sn), ((((((((hw_.sn).sn).sn).sn).sn)).sn).sn), ((((((((hG5.sl).sl).sl).sl).sl)).sl).sl), by simp⟩ ?_
   have hQR : w.heap.size + 4 ≤ W0.heap.size := by omega
   clear kx fx ky fy hB hx hy hz hw_ hG5
   generalize hq2 : (⟨5, v, r, q.2, seen, tr, sp, ag, re⟩ : Hd) = h2 at *
   exact zput61
  ·
   have hq0d : decide (0 ≤ q.2) = false := by simpa using hq0
   have HQ0 := Lib.hid hq0d
   go_upto_region 50 with fail
   clear hq0d
   have HV := Lib.hid (show put4 s ⟨4, v, r, t, seen, tr, sp, ag, re⟩ = (q.1, (⟨5, v, r, q.2, seen, tr, sp, ag, re⟩ : Hd), false) by simp only [put4, HQ5.out, HAT.out, HCL.out, fin, HQ0.out]; rfl)
   refine p6F_wp w q.1 W0.heap.size w1.heap.size A5 n5 c5 (⟨5, v, r, q.2, seen, tr, sp, ag, re⟩ : Hd) (by kernel_rfl) (by omega) ⟨(sc (sc ((sc (sc (sc (sc (sc hB)))))))), (((sets_all (us := (aS q.1 A5 n5 c5)) hx rfl).sn).sn), by simpa using ((((((((hy.sn).sn).sn).sn).sn)).set 3 (.int .i64 q.2)).set 0 (.int .i64 5)), ((((((((hz.sn).sn).sn).sn).sn)).sn).sn), ((((((((hw_.sn).sn).sn).sn).sn)).sn).sn), ((((((((hG5.sl).sl).sl).sl).sl)).sl).sl), by simp⟩ ?_
   have hQR : w.heap.size + 4 ≤ W0.heap.size := by omega
   clear kx fx ky fy hB hx hy hz hw_ hG5
   generalize hq2 : (⟨5, v, r, q.2, seen, tr, sp, ag, re⟩ : Hd) = h2 at *
   exact zput63
 ·
  rw [hcl] at c2
  go_wp2_with fail
  clear kx ky fy c2
  refine (sputTicket_any s (some ⟨b, 0, none⟩) n cap lo hi r _ hs0 (Nat.le_trans hh hB.size) (by have := HNT.out.2.1; have := HLN.out; omega) HNT.out.len).mono ?_
  rintro e w1 ⟨A5, n5, c5, rfl, hG5, hb5⟩
  replace hx := hx.below hb5 hx.lt
  replace hy := hy.below hb5 hy.lt
  replace hz := hz.below hb5 hz.lt
  replace hw_ := hw_.below hb5 hw_.lt
  have h5 := hb5.size
  replace hB := bstep hB hB.size hb5
  clear hb5
  generalize hq5 : putTicket s r = q at *
  have HQ5 := Lib.hid hq5; clear hq5
  have HCL := Lib.hid hcl; clear hcl
  unfold stV
  have kx := hx.cell
  have fx := hx.frozen
  have ky := hy.cell
  have fy := hy.frozen
  by_cases hq0 : 0 ≤ q.2
  ·
   have hq0d : decide (0 ≤ q.2) = true := by simpa using hq0
   have HQ0 := Lib.hid hq0d
   go_upto_region 50 with fail
   clear hq0d
   have HV := Lib.hid (show put4 s ⟨4, v, r, t, seen, tr, sp, ag, re⟩ = (q.1, (⟨10, v, r, q.2, seen, tr, sp, ag, re⟩ : Hd), ((⟨10, v, r, q.2, seen, tr, sp, ag, re⟩ : Hd)).ok) by simp only [put4, HQ5.out, HAT.out, HCL.out, fin, HQ0.out]; rfl)
   refine p6T_wp w q.1 W0.heap.size w1.heap.size A5 n5 c5 (⟨10, v, r, q.2, seen, tr, sp, ag, re⟩ : Hd) (by kernel_rfl) (by omega) ⟨(sc (sc (sc ((sc (sc (sc (sc (sc hB))))))))), ((((sets_all (us := (aS q.1 A5 n5 c5)) hx rfl).sn).sn).sn), by simpa using (((((((((hy.sn).sn).sn).sn).sn)).set 3 (.int .i64 q.2)).set 0 (.int .i64 5)).set 0 (.int .i64 10)), (((((((((hz.sn).sn).sn).sn).sn)).sn).sn).sn), (((((((((hw_.sn).sn).sn).sn).sn)).sn).sn).sn), (((((((((hG5.sl).sl).sl).sl).sl)).sl).sl).sl), by simp⟩ ?_
   have hQR : w.heap.size + 4 ≤ W0.heap.size := by omega
   clear kx fx ky fy hB hx hy hz hw_ hG5
   generalize hq2 : (⟨10, v, r, q.2, seen, tr, sp, ag, re⟩ : Hd) = h2 at *
   exact zput61
  ·
   have hq0d : decide (0 ≤ q.2) = false := by simpa using hq0
   have HQ0 := Lib.hid hq0d
   go_upto_region 50 with fail
   clear hq0d
   have HV := Lib.hid (show put4 s ⟨4, v, r, t, seen, tr, sp, ag, re⟩ = (q.1, (⟨10, v, r, q.2, seen, tr, sp, ag, re⟩ : Hd), false) by simp only [put4, HQ5.out, HAT.out, HCL.out, fin, HQ0.out]; rfl)
   refine p6F_wp w q.1 W0.heap.size w1.heap.size A5 n5 c5 (⟨10, v, r, q.2, seen, tr, sp, ag, re⟩ : Hd) (by kernel_rfl) (by omega) ⟨(sc (sc (sc ((sc (sc (sc (sc (sc hB))))))))), ((((sets_all (us := (aS q.1 A5 n5 c5)) hx rfl).sn).sn).sn), by simpa using (((((((((hy.sn).sn).sn).sn).sn)).set 3 (.int .i64 q.2)).set 0 (.int .i64 5)).set 0 (.int .i64 10)), (((((((((hz.sn).sn).sn).sn).sn)).sn).sn).sn), (((((((((hw_.sn).sn).sn).sn).sn)).sn).sn).sn), (((((((((hG5.sl).sl).sl).sl).sl)).sl).sl).sl), by simp⟩ ?_
   have hQR : w.heap.size + 4 ≤ W0.heap.size := by omega
   clear kx fx ky fy hB hx hy hz hw_ hG5
   generalize hq2 : (⟨10, v, r, q.2, seen, tr, sp, ag, re⟩ : Hd) = h2 at *
   exact zput63
end Go.Proofs.YthpckpnlohfcbaaGreatDoor
namespace Go.Proofs.YthpckpnlohfcbaaGreatDoor
set_option linter.unusedSimpArgs false
set_option linter.unusedVariables false
open Go.RowKit
set_option linter.unusedVariables false
attribute [local go_sem] OpUpon
attribute [local go_sem ↓] Go.wp_at_zero Go.wp_at_succ
def put5 (s : St) (h : Hd) : St × Hd × Bool := fin true s { h with seen := lookAt s h, at_ := if mayPut (lookAt s h) h.t then (if (lookAt s h).s then 7 else 6) else 8 }
def p5AV (s : St) (N b n cap pb : Nat) (rg : Rg) (p : Pl) (v r t : Int) (seen : Pl) (tr sp : Int) (ag : Bool) (re : Int) (n' cap' : Nat) : List Sl := [.v (.pointer (some ⟨N, 2, none⟩)),
 .v (.slice (some ⟨b, 0, none⟩) n cap),
 .v r,
 .v (.pointer (some ⟨b, r.toNat * 5, none⟩)),
 .v (.pointer (some ⟨b, r.toNat * 5 + 4, none⟩)),
 .v (.slice (some ⟨pb, 0, none⟩) n' cap'),
 .v t,
 .v (pT N),
 .v s.rd,
 .v (.int .i64 (t % s.rd)),
 .v (.pointer (some ⟨pb, (t % s.rd).toNat * 4, none⟩)),
 .v (.agg (cP p)),
 .v (.pointer (some ⟨(N + 1), 4, none⟩)),
 .e fun σ w => BoxAt w (N + 1) (dH 5 v r t p tr sp ag re) 35]
set_option maxRecDepth 100000 in
set_option maxHeartbeats 4000000 in
theorem l6Put_5 (s : St) (A : Option Addr) (n cap lo hi : Nat) (v r t : Int) (seen : Pl) (tr sp : Int) (ag : Bool) (re : Int) (w : World) (hs : RgsW lo hi w A n cap s.rs) (hh : hi ≤ w.heap.size) (hlo : lo ≤ w.heap.size) (hok : stOk s = true) (hrb : ringB s r = true) (ht : 0 ≤ t ∧ t ≤ 1000000) :
  Calls Tryz.prog 50 #[stV s A n cap, hdV ⟨5, v, r, t, seen, tr, sp, ag, re⟩] w (RetSHB lo (put5 s ⟨5, v, r, t, seen, tr, sp, ag, re⟩) w) := by
 have HOK := Lib.hid hok
 have HRB := Lib.hid hrb
 have HLN := Lib.hid hs.1
 have HNT := Lib.hid (stOk_neat hok)
 obtain ⟨z0, z1, z2⟩ := ringB_at HLN.out hrb
 clear hok hrb
 obtain ⟨t0, t1⟩ := ht
 unfold stV hdV
 dsimp only
 go_enter Tryz.func50, Tryz.ntmps50
 go_upto_region 26 with fail
 refine wp_abs (fun W => Below w.heap.size w W ∧ BoxAt W w.heap.size (aS s A n cap) 32 ∧ BoxAt W (w.heap.size + 1) (dH 5 v r t seen tr sp ag re) 35 ∧ BoxAt W (w.heap.size + 1 + 1) zS 32 ∧ BoxAt W (w.heap.size + 1 + 1 + 1) zH 35) ⟨(((((Below.refl _ _).alloc (Nat.le_refl _) _).alloc (by simp) _).alloc (by simp; omega) _).alloc (by simp; omega) _), (((BoxAt.new _ _ _).alloc _).alloc _).alloc _, ((BoxAt.new' (by simp)).alloc _).alloc _, (BoxAt.new' (by simp)).alloc _, BoxAt.new' (by simp)⟩ ?_
 rintro W0 ⟨hB, hx, hy, hz, hw_⟩
 have lw0 := hw_.lt
 have hs0 := hs.below hB hh
 have kx := hx.cell
 have ky := hy.cell
 have fy := hy.frozen
 obtain ⟨b, rg, A', n', cap', rfl, hlb, hbh, hri, c0, c1', c2, c3, c4, hpw⟩ := hs0.at_ z2
 have HAT := Lib.hid (St.at_some (s := s) (z := r) hri)
 have hrd := stOk_rd HOK.out
 have hrp := stOk_places HOK.out rg (List.mem_of_getElem? hri)
 have hn' : n' = rg.ps.length := hpw.1.symm
 obtain ⟨pb, rfl, hpbh, hpo⟩ := hpw.2 (by omega)
 have hm0 := Int.emod_nonneg t (show s.rd ≠ 0 by omega)
 have hm1 := Int.emod_lt_of_pos t (show 0 < s.rd by omega)
 have hkl : (t % s.rd).toNat < rg.ps.length := by omega
 obtain ⟨p, hpx⟩ : ∃ p, rg.ps[(t % s.rd).toNat]? = some p := ⟨_, List.getElem?_eq_getElem hkl⟩
 have he : PlE 0 W0 pb ((t % s.rd).toNat * 4) p := PlE.of_cells fun j u hu => Own.cell_ Pl.cs_len hpo hpx hu
 have hc : RgC W0 b r.toNat rg (some ⟨pb, 0, none⟩) n' cap' := ⟨c0, c1', c2, c3, c4⟩
 have hat0 : t % s.rd < (n' : Int) := by omega
 have hbl2 : b < w.heap.size ∧ pb < w.heap.size := by omega
 have HLK := Lib.hid (show lookAt s ⟨5, v, r, t, seen, tr, sp, ag, re⟩ = p by simp [lookAt, HAT.out, hpx])
 clear hri c0 c1' c2 c3 c4 hpx hpw hpo kx ky fy hs0 hn' hrp
 go_cut [91] (fun _ W' => Below w.heap.size w W' ∧ BoxAt W' w.heap.size (aS s (some ⟨b, 0, none⟩) n cap) 32 ∧ BoxAt W' (w.heap.size + 1) (dH 5 v r t p tr sp ag re) 35 ∧ BoxAt W' (w.heap.size + 1 + 1) zS 32 ∧ BoxAt W' (w.heap.size + 1 + 1 + 1) zH 35)
 case first =>
  refine wp_region2v (fun w w' => Below w.heap.size w w') (fun _ _ h => h.size) (fun _ => Below.refl _ _) (fun L W' => Below w.heap.size w W' ∧ BoxAt W' w.heap.size (aS s (some ⟨b, 0, none⟩) n cap) 32 ∧ BoxAt W' (w.heap.size + 1 + 1) zS 32 ∧ BoxAt W' (w.heap.size + 1 + 1 + 1) zH 35 ∧ RgC W' b r.toNat rg (some ⟨pb, 0, none⟩) n' cap' ∧ PlE 0 W' pb ((t % s.rd).toNat * 4) p ∧ (∃ x0 x1 x2 x3, BoxAt W' (w.heap.size + 1) #[.int .i64 5, v, r, t, x0, x1, x2, x3, tr, sp, ag, re] 35) ∧ (L 13 = false → BoxAt W' (w.heap.size + 1) (dH 5 v r t seen tr sp ag re) 35)) (p5AV s w.heap.size b n cap pb rg p v r t seen tr sp ag re n' cap') (fun j => [0, 0, 0, 0, 0, 0, 0, 0, 0, 0, 0, 0, 0, 1].getD j 0) [] (by kernel_rfl) (by kernel_rfl) ?_ ?_ ?_
   (.still rfl ?a0 <| .still rfl ?a1 <| .still rfl ?a2 <| .still rfl ?a3 <| .still rfl ?a4 <| .still rfl ?a5 <| .still rfl ?a6 <| .still rfl ?a7 <| .still rfl ?a8 <| .still rfl ?a9 <| .still rfl ?a10 <| .still rfl ?a11 <| .still rfl ?a12 <| .store rfl ?a13 <| .nil) ?_ ?_
  · exact ⟨fun _ _ _ _ h => h, trivial⟩
  · exact ⟨fun σ w w' hb hR => hR.below hb hR.lt, trivial⟩
  · exact ⟨hB.drew, hx, hz, hw_, hc, he, ⟨_, _, _, _, hy⟩, fun _ => hy⟩
  case a0 | a2 | a3 | a4 | a6 | a7 | a12 =>
   go_light
   intro L σ W' hcl hL hC hw
   try have e1 := wT hw 1 rfl
   try have e2 := wT hw 2 rfl
   try have e3 := wT hw 3 rfl
   exact zput62
  case a1 | a8 =>
   go_light
   intro L σ W' hcl hL hC hw
   try have e0 := wT hw 0 rfl
   try have e7 := wT hw 7 rfl
   have ks := hC.2.1.cell
   exact zput62
  case a5 =>
   go_light
   intro L σ W' hcl hL hC hw
   have e4 := wV hw 4 rfl
   have hc0 := hC.2.2.2.2.1
   obtain ⟨c0, c1_, c2, c3, c4⟩ := hc0
   exact zput62
  case a11 =>
   go_light
   intro L σ W' hcl hL hC hw
   have e10 := wV hw 10 rfl
   have he0 := hC.2.2.2.2.2.1
   obtain ⟨d0, d1, d2, d3⟩ := he0
   exact zput62
  case a9 =>
   go_light
   intro L σ W' hcl hL hC hw
   have e6 := wV hw 6 rfl
   have e8 := wV hw 8 rfl
   have nz_ : ¬ s.rd = 0 := by omega
   have rm_ : t.tmod s.rd = t % s.rd := Int.tmod_eq_emod_of_nonneg t0
   have wr_ : IntKind.i64.wrap (t % s.rd) = t % s.rd := by rw [IntKind.wrap_i64]; omega
   exact zput62
  case a10 =>
   go_light
   intro L σ W' hcl hL hC hw
   have e5 := wV hw 5 rfl
   have e9 := wV hw 9 rfl
   exact zput62
  case a13 =>
   go_light
   intro L σ W' hcl hL hC hw hne
   have e11 := wV hw 11 rfl
   have e12 := wV hw 12 rfl
   clear hw hne
   have HC := Lib.hid hC
   obtain ⟨hB, hx, hz, hw_, hc, he, ⟨_, _, _, _, hy⟩, hy_o⟩ := hC
   clear hcl hL
   have kc_ := hy.cell
   have kf_ := hy.frozen
   clear hB hx hz hw_ hc he hy hy_o
   refine OpGoes.go fun K hK => ?_
   go_simp
   obtain ⟨hB, hx, hz, hw_, hc, he, ⟨_, _, _, _, hy⟩, hy_o⟩ := HC.out
   have hset := ((((hy.set 4 (.bool p.s)).set 5 (.int .i64 p.n)).set 6 (.bool p.f)).set 7 (.int .i64 p.v))
   simp only [List.setIfInBounds_toArray, List.set_cons_zero, List.set_cons_succ] at hset
   refine hK _ _ ⟨⟨(sc (sc (sc (sc hB)))), ((((hx.sn).sn).sn).sn), ((((hz.sn).sn).sn).sn), ((((hw_.sn).sn).sn).sn), ((((hc.sn).sn).sn).sn), ((((he.sn).sn).sn).sn), ⟨_, _, _, _, hset⟩, fun h => absurd h (by simp [upd])⟩, hset, by simp, keepV ?_⟩
   exact ⟨fun h => absurd rfl h, trivial⟩
  ·
   intro L L' W' hLL hC
   obtain ⟨hB, hx, hz, hw_, hc, he, ⟨_, _, _, _, hy⟩, hy_o⟩ := hC
   exact ⟨hB, hx, hz, hw_, hc, he, ⟨_, _, _, _, hy⟩, fun h => hy_o (hLL _ h)⟩
  ·
   intro σ L W' hall hC hRR
   obtain ⟨hB, hx, hz, hw_, hc, he, ⟨_, _, _, _, hy⟩, hy_o⟩ := hC
   have s13 := dE hRR 13 rfl
   clear hRR
   simp only [lexAll]
   go_simp
   go_step
   go_meet
   exact ⟨hB, hx, s13, hz, hw_⟩
 case rest =>
  clear hB hx hy hz hw_ hc he
  obtain ⟨hB, hx, hy, hz, hw_⟩ := hcut
  have ky := hy.cell
  go_wp2_with fail
  refine (smayPut_any p t _).mono ?_
  rintro e w1 ⟨rfl, hb1⟩
  replace hx := hx.below hb1 hx.lt
  replace hy := hy.below hb1 hy.lt
  replace hz := hz.below hb1 hz.lt
  replace hw_ := hw_.below hb1 hw_.lt
  replace hB := bstep hB hB.size hb1
  clear hb1 ky
  have hs0 := hs.below hB hh
  have lwc := hw_.lt
  have ky := hy.cell
  have fy := hy.frozen
  cases hmp : mayPut p t
  ·
   go_upto_region 50 with fail
   have HV := Lib.hid (show put5 s ⟨5, v, r, t, seen, tr, sp, ag, re⟩ = (s, (⟨8, v, r, t, p, tr, sp, ag, re⟩ : Hd), ((⟨8, v, r, t, p, tr, sp, ag, re⟩ : Hd)).ok) by simp only [put5, HLK.out, hmp]; rfl)
   refine p6T_wp w s lo hi (some ⟨b, 0, none⟩) n cap (⟨8, v, r, t, p, tr, sp, ag, re⟩ : Hd) (by kernel_rfl) (by omega) ⟨(sc hB), (hx.sn), by simpa using (hy.set 0 (.int .i64 8)), (hz.sn), (hw_.sn), (hs0.sr), by simp; omega⟩ ?_
   clear ky fy hB hx hy hz hw_ hs0
   generalize hq2 : (⟨8, v, r, t, p, tr, sp, ag, re⟩ : Hd) = h2 at *
   exact zput60
  ·
   cases hsf : p.s
   ·
    go_upto_region 50 with fail
    have HV := Lib.hid (show put5 s ⟨5, v, r, t, seen, tr, sp, ag, re⟩ = (s, (⟨6, v, r, t, p, tr, sp, ag, re⟩ : Hd), ((⟨6, v, r, t, p, tr, sp, ag, re⟩ : Hd)).ok) by simp only [put5, HLK.out, hmp, hsf]; rfl)
    refine p6T_wp w s lo hi (some ⟨b, 0, none⟩) n cap (⟨6, v, r, t, p, tr, sp, ag, re⟩ : Hd) (by kernel_rfl) (by omega) ⟨(sc hB), (hx.sn), by simpa using (hy.set 0 (.int .i64 6)), (hz.sn), (hw_.sn), (hs0.sr), by simp; omega⟩ ?_
    clear ky fy hB hx hy hz hw_ hs0
    generalize hq2 : (⟨6, v, r, t, p, tr, sp, ag, re⟩ : Hd) = h2 at *
    exact zput60
   ·
    go_upto_region 50 with fail
    have HV := Lib.hid (show put5 s ⟨5, v, r, t, seen, tr, sp, ag, re⟩ = (s, (⟨7, v, r, t, p, tr, sp, ag, re⟩ : Hd), ((⟨7, v, r, t, p, tr, sp, ag, re⟩ : Hd)).ok) by simp only [put5, HLK.out, hmp, hsf]; rfl)
    refine p6T_wp w s lo hi (some ⟨b, 0, none⟩) n cap (⟨7, v, r, t, p, tr, sp, ag, re⟩ : Hd) (by kernel_rfl) (by omega) ⟨(sc hB), (hx.sn), by simpa using (hy.set 0 (.int .i64 7)), (hz.sn), (hw_.sn), (hs0.sr), by simp; omega⟩ ?_
    clear ky fy hB hx hy hz hw_ hs0
    generalize hq2 : (⟨7, v, r, t, p, tr, sp, ag, re⟩ : Hd) = h2 at *
    exact zput60
end Go.Proofs.YthpckpnlohfcbaaGreatDoor
