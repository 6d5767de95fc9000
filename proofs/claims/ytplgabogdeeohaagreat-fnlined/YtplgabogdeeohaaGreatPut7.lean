/-
 The walk of a step of one who puts, of the model: its number, and the check.
-/
import Derived.Test.YtplgabogdeeohaaGreatPut6
namespace Go.Proofs.YtplgabogdeeohaaGreat
set_option linter.unusedSimpArgs false
set_option linter.unusedVariables false
open Go.RowKit
set_option linter.unusedVariables false
attribute [local go_sem] OpUpon
attribute [local go_sem ↓] Go.wp_at_zero Go.wp_at_succ

def put8 (s : St) (h : Hd) : St × Hd × Bool := fin true s { h with tr := h.tr + 1, at_ := if s.rd ≤ h.t - (s.at h.r).h ∨ 4 ≤ h.tr + 1 then 9 else 4 }

set_option maxRecDepth 100000 in
set_option maxHeartbeats 4000000 in
theorem l6Put_4 (s : St) (A : Option Addr) (n cap lo hi : Nat) (v r t : Int) (seen : Pl) (tr sp : Int) (ag : Bool) (re : Int) (w : World) (hs : RgsW lo hi w A n cap s.rs) (hh : hi ≤ w.heap.size) (hlo : lo ≤ w.heap.size) (hok : stOk s = true) (hrb : ringB s r = true) :
  Calls Tryz.prog 91 #[stV s A n cap, hdV ⟨4, v, r, t, seen, tr, sp, ag, re⟩] w (RetSHB lo (put4 s ⟨4, v, r, t, seen, tr, sp, ag, re⟩) w) := by
 have HOK := Lib.hid hok
 have HRB := Lib.hid hrb
 have HLN := Lib.hid hs.1
 have HNT := Lib.hid (stOk_neat hok)
 obtain ⟨z0, z1, z2⟩ := ringB_at HLN.out hrb
 clear hok hrb
 unfold stV hdV
 dsimp only
 go_enter Tryz.func91, Tryz.ntmps91
 go_upto_region 19 with fail
 refine wp_abs (fun W => Below w.heap.size w W ∧ BoxAt W w.heap.size (aS s A n cap) 58 ∧ BoxAt W (w.heap.size + 1) (dH 4 v r t seen tr sp ag re) 97 ∧ BoxAt W (w.heap.size + 1 + 1) zS 58 ∧ BoxAt W (w.heap.size + 1 + 1 + 1) zH 97) ⟨(((((Below.refl _ _).alloc (Nat.le_refl _) _).alloc (by simp) _).alloc (by simp; omega) _).alloc (by simp; omega) _), (((BoxAt.new _ _ _).alloc _).alloc _).alloc _, ((BoxAt.new' (by simp)).alloc _).alloc _, (BoxAt.new' (by simp)).alloc _, BoxAt.new' (by simp)⟩ ?_
 rintro W0 ⟨hB, hx, hy, hz, hw_⟩
 have lw0 := hw_.lt
 have hs0 := hs.below hB hh
 have kx := hx.cell
 have ky := hy.cell
 have fy := hy.frozen
 obtain ⟨b, rg, A', n', cap', rfl, hlb, hbh, hri, c0, c1', c2, c3, c4, hpw⟩ := hs0.at_ z2
 have HAT := Lib.hid (St.at_some (s := s) (z := r) hri)
 have hnum := stOk_nums HOK.out rg (List.mem_of_getElem? hri)
 clear hri
 clear c0 c1' c3 c4 hpw hnum
 cases hcl : rg.c
 ·
  rw [hcl] at c2
  go_wp2_with fail
  clear kx ky fy c2
  refine (sputTicket_any s (some ⟨b, 0, none⟩) n cap lo hi r _ hs0 (Nat.le_trans hh hB.size) (by have := HNT.out.2.1; have := HLN.out; omega) HNT.out.len).mono ?_
  rintro e w1 ⟨A5, n5, c5, rfl, hG5, hb5⟩
  replace hx := hx.below hb5 hx.lt
  replace hy := hy.below hb5 hy.lt
  replace hz := hz.below hb5 hz.lt
  replace hw_ := hw_.below hb5 hw_.lt
  have h5 := hb5.size
  replace hB := bstep hB hB.size hb5
  clear hb5
  generalize hq5 : putTicket s r = q at *
  have HQ5 := Lib.hid hq5; clear hq5
  have HCL := Lib.hid hcl; clear hcl
  unfold stV
  have kx := hx.cell
  have fx := hx.frozen
  have ky := hy.cell
  have fy := hy.frozen
  by_cases hq0 : 0 ≤ q.2
  ·
   have hq0d : decide (0 ≤ q.2) = true := by simpa using hq0
   have HQ0 := Lib.hid hq0d
   go_upto_region 50 with fail
   clear hq0d
   have HV := Lib.hid (show put4 s ⟨4, v, r, t, seen, tr, sp, ag, re⟩ = (q.1, (⟨5, v, r, q.2, seen, tr, sp, ag, re⟩ : Hd), ((⟨5, v, r, q.2, seen, tr, sp, ag, re⟩ : Hd)).ok) by simp only [put4, HQ5.out, HAT.out, HCL.out, fin, HQ0.out]; rfl)
   refine p6T_wp w q.1 W0.heap.size w1.heap.size A5 n5 c5 (⟨5, v, r, q.2, seen, tr, sp, ag, re⟩ : Hd) (by kernel_rfl) (by omega) ⟨(sc (sc ((sc (sc (sc (sc (sc hB)))))))), (((sets_all (us := (aS q.1 A5 n5 c5)) hx rfl).sn).sn), by simpa using ((((((((hy.sn).sn).sn).sn).sn)).set 3 (.int .i64 q.2)).set 0 (.int .i64 5)), ((((((((hz.sn).sn).sn).sn).sn)).sn).sn), ((((((((hw_.sn).sn).sn).sn).sn)).sn).sn), ((((((((hG5.sl).sl).sl).sl).sl)).sl).sl), by simp⟩ ?_
   have hQR : w.heap.size + 4 ≤ W0.heap.size := by omega
   clear kx fx ky fy hB hx hy hz hw_ hG5
   generalize hq2 : (⟨5, v, r, q.2, seen, tr, sp, ag, re⟩ : Hd) = h2 at *
   clear hq2
   intro _ _ _ _ _ _ _ W' hB k7 k8 hG _
   replace k7 := k7.cell
   replace k8 := k8.cell
   go_step
   go_wp2
   refine bodyPost_ret (v := .tuple #[stV q.1 A5 n5 c5, hdV h2, .bool (h2.ok)]) (by simp [results, Tryz.results91, go_sem, k7, k8, stV, hdV]) rfl ⟨A5, n5, c5, by rw [HV.out], ?_, hB⟩
   rw [HV.out]
   exact hG.cut.mono (by omega) (Nat.le_refl _)
  ·
   have hq0d : decide (0 ≤ q.2) = false := by simpa using hq0
   have HQ0 := Lib.hid hq0d
   go_upto_region 50 with fail
   clear hq0d
   have HV := Lib.hid (show put4 s ⟨4, v, r, t, seen, tr, sp, ag, re⟩ = (q.1, (⟨5, v, r, q.2, seen, tr, sp, ag, re⟩ : Hd), false) by simp only [put4, HQ5.out, HAT.out, HCL.out, fin, HQ0.out]; rfl)
   refine p6F_wp w q.1 W0.heap.size w1.heap.size A5 n5 c5 (⟨5, v, r, q.2, seen, tr, sp, ag, re⟩ : Hd) (by kernel_rfl) (by omega) ⟨(sc (sc ((sc (sc (sc (sc (sc hB)))))))), (((sets_all (us := (aS q.1 A5 n5 c5)) hx rfl).sn).sn), by simpa using ((((((((hy.sn).sn).sn).sn).sn)).set 3 (.int .i64 q.2)).set 0 (.int .i64 5)), ((((((((hz.sn).sn).sn).sn).sn)).sn).sn), ((((((((hw_.sn).sn).sn).sn).sn)).sn).sn), ((((((((hG5.sl).sl).sl).sl).sl)).sl).sl), by simp⟩ ?_
   have hQR : w.heap.size + 4 ≤ W0.heap.size := by omega
   clear kx fx ky fy hB hx hy hz hw_ hG5
   generalize hq2 : (⟨5, v, r, q.2, seen, tr, sp, ag, re⟩ : Hd) = h2 at *
   clear hq2
   intro _ _ _ _ _ _ _ W' hB k7 k8 hG _
   replace k7 := k7.cell
   replace k8 := k8.cell
   go_step
   go_wp2
   refine bodyPost_ret (v := .tuple #[stV q.1 A5 n5 c5, hdV h2, .bool (false)]) (by simp [results, Tryz.results91, go_sem, k7, k8, stV, hdV]) rfl ⟨A5, n5, c5, by rw [HV.out], ?_, hB⟩
   rw [HV.out]
   exact hG.cut.mono (by omega) (Nat.le_refl _)
 ·
  rw [hcl] at c2
  go_wp2_with fail
  clear kx ky fy c2
  refine (sputTicket_any s (some ⟨b, 0, none⟩) n cap lo hi r _ hs0 (Nat.le_trans hh hB.size) (by have := HNT.out.2.1; have := HLN.out; omega) HNT.out.len).mono ?_
  rintro e w1 ⟨A5, n5, c5, rfl, hG5, hb5⟩
  replace hx := hx.below hb5 hx.lt
  replace hy := hy.below hb5 hy.lt
  replace hz := hz.below hb5 hz.lt
  replace hw_ := hw_.below hb5 hw_.lt
  have h5 := hb5.size
  replace hB := bstep hB hB.size hb5
  clear hb5
  generalize hq5 : putTicket s r = q at *
  have HQ5 := Lib.hid hq5; clear hq5
  have HCL := Lib.hid hcl; clear hcl
  unfold stV
  have kx := hx.cell
  have fx := hx.frozen
  have ky := hy.cell
  have fy := hy.frozen
  by_cases hq0 : 0 ≤ q.2
  ·
   have hq0d : decide (0 ≤ q.2) = true := by simpa using hq0
   have HQ0 := Lib.hid hq0d
   go_upto_region 50 with fail
   clear hq0d
   have HV := Lib.hid (show put4 s ⟨4, v, r, t, seen, tr, sp, ag, re⟩ = (q.1, (⟨10, v, r, q.2, seen, tr, sp, ag, re⟩ : Hd), ((⟨10, v, r, q.2, seen, tr, sp, ag, re⟩ : Hd)).ok) by simp only [put4, HQ5.out, HAT.out, HCL.out, fin, HQ0.out]; rfl)
   refine p6T_wp w q.1 W0.heap.size w1.heap.size A5 n5 c5 (⟨10, v, r, q.2, seen, tr, sp, ag, re⟩ : Hd) (by kernel_rfl) (by omega) ⟨(sc (sc (sc ((sc (sc (sc (sc (sc hB))))))))), ((((sets_all (us := (aS q.1 A5 n5 c5)) hx rfl).sn).sn).sn), by simpa using (((((((((hy.sn).sn).sn).sn).sn)).set 3 (.int .i64 q.2)).set 0 (.int .i64 5)).set 0 (.int .i64 10)), (((((((((hz.sn).sn).sn).sn).sn)).sn).sn).sn), (((((((((hw_.sn).sn).sn).sn).sn)).sn).sn).sn), (((((((((hG5.sl).sl).sl).sl).sl)).sl).sl).sl), by simp⟩ ?_
   have hQR : w.heap.size + 4 ≤ W0.heap.size := by omega
   clear kx fx ky fy hB hx hy hz hw_ hG5
   generalize hq2 : (⟨10, v, r, q.2, seen, tr, sp, ag, re⟩ : Hd) = h2 at *
   clear hq2
   intro _ _ _ _ _ _ _ W' hB k7 k8 hG _
   replace k7 := k7.cell
   replace k8 := k8.cell
   go_step
   go_wp2
   refine bodyPost_ret (v := .tuple #[stV q.1 A5 n5 c5, hdV h2, .bool (h2.ok)]) (by simp [results, Tryz.results91, go_sem, k7, k8, stV, hdV]) rfl ⟨A5, n5, c5, by rw [HV.out], ?_, hB⟩
   rw [HV.out]
   exact hG.cut.mono (by omega) (Nat.le_refl _)
  ·
   have hq0d : decide (0 ≤ q.2) = false := by simpa using hq0
   have HQ0 := Lib.hid hq0d
   go_upto_region 50 with fail
   clear hq0d
   have HV := Lib.hid (show put4 s ⟨4, v, r, t, seen, tr, sp, ag, re⟩ = (q.1, (⟨10, v, r, q.2, seen, tr, sp, ag, re⟩ : Hd), false) by simp only [put4, HQ5.out, HAT.out, HCL.out, fin, HQ0.out]; rfl)
   refine p6F_wp w q.1 W0.heap.size w1.heap.size A5 n5 c5 (⟨10, v, r, q.2, seen, tr, sp, ag, re⟩ : Hd) (by kernel_rfl) (by omega) ⟨(sc (sc (sc ((sc (sc (sc (sc (sc hB))))))))), ((((sets_all (us := (aS q.1 A5 n5 c5)) hx rfl).sn).sn).sn), by simpa using (((((((((hy.sn).sn).sn).sn).sn)).set 3 (.int .i64 q.2)).set 0 (.int .i64 5)).set 0 (.int .i64 10)), (((((((((hz.sn).sn).sn).sn).sn)).sn).sn).sn), (((((((((hw_.sn).sn).sn).sn).sn)).sn).sn).sn), (((((((((hG5.sl).sl).sl).sl).sl)).sl).sl).sl), by simp⟩ ?_
   have hQR : w.heap.size + 4 ≤ W0.heap.size := by omega
   clear kx fx ky fy hB hx hy hz hw_ hG5
   generalize hq2 : (⟨10, v, r, q.2, seen, tr, sp, ag, re⟩ : Hd) = h2 at *
   clear hq2
   intro _ _ _ _ _ _ _ W' hB k7 k8 hG _
   replace k7 := k7.cell
   replace k8 := k8.cell
   go_step
   go_wp2
   refine bodyPost_ret (v := .tuple #[stV q.1 A5 n5 c5, hdV h2, .bool (false)]) (by simp [results, Tryz.results91, go_sem, k7, k8, stV, hdV]) rfl ⟨A5, n5, c5, by rw [HV.out], ?_, hB⟩
   rw [HV.out]
   exact hG.cut.mono (by omega) (Nat.le_refl _)
end Go.Proofs.YtplgabogdeeohaaGreat
