/-
 The walk of a step of one who takes, of the model: where nothing is on the ring.
-/
import Derived.Test.YthpckpnlohfcbaaGreatDoorTake1
import Derived.Test.YthpckpnlohfcbaaGreatDoorTake2
namespace Go.Proofs.YthpckpnlohfcbaaGreatDoor
set_option linter.unusedSimpArgs false
set_option linter.unusedVariables false
open Go.RowKit
set_option linter.unusedVariables false
attribute [local go_sem] OpUpon
attribute [local go_sem ↓] Go.wp_at_zero Go.wp_at_succ
theorem ztakeJ0 {p : Prop} (h : p := by
 clear hq5
 unfold stV hdV
 have kz := hz.cell
 have fz := hz.frozen
 have kw := hw_.cell
 have fw := hw_.frozen
 go_wp2
 refine bodyPost_ret (v := .tuple #[stV q.1 A5 n5 c5, hdV q.2.1, q.2.2]) (by simp [results, Tryz.results51, go_sem, kz, kw, stV, hdV]) rfl ⟨A5, n5, c5, by rw [HV.out], ?_, ?_⟩
 ·
  rw [HV.out]
  exact (RgsW.setsT (RgsW.setsT hG5 hz (by decide) (by decide) (aS q.1 A5 n5 c5) 0) (BoxAt.sets_ne (aS q.1 A5 n5 c5) 0 hw_ (by omega)) (by decide) (by decide) (aH q.2.1) 0).mono (Nat.le_refl _) (by simp)
 · exact Below.setCells (by omega) (aH q.2.1) 0 (Below.setCells (by omega) (aS q.1 A5 n5 c5) 0 hB)) : p := h -- b0138138
theorem ztakeJ1 {p : Prop} (h : p := by
 clear hq2
 intro σ W' e_ hB k7 k8 hG _
 replace k7 := k7.cell
 replace k8 := k8.cell
 simp only [lexAll]
 go_simp
 go_step
 go_wp2
 refine bodyPost_ret (v := .tuple #[stV s (some ⟨b, 0, none⟩) n cap, hdV h2, .bool true]) (by simp [results, Tryz.results80, go_sem, k7, k8, stV, hdV, Hd.rest, Hd.zero]) rfl ⟨some ⟨b, 0, none⟩, n, cap, by rw [HV.out], ?_, hB⟩
 rw [HV.out]
 exact hG.cut.mono (by omega) (Nat.le_refl _)) : p := h -- ef26733d
theorem ztakeJ2 {p : Prop} (h : p := by
 intros
 rename_i k
 have kc_ := k.cell
 have kf_ := k.frozen
 refine OpGoes.go fun K hK => ?_
 go_simp
 first | exact hK _ _ ⟨rfl, rfl⟩ | exact hK _ _ rfl) : p := h -- e92ca8c3
theorem ztakeJ3 {p : Prop} (h : p := by
 clear hq2
 intro σ W' e_ hB k7 k8 hG _
 replace k7 := k7.cell
 replace k8 := k8.cell
 simp only [lexAll]
 go_simp
 go_step
 go_wp2
 refine bodyPost_ret (v := .tuple #[stV q.1 A5 n5 c5, hdV h2, .bool true]) (by simp [results, Tryz.results80, go_sem, k7, k8, stV, hdV, Hd.rest, Hd.zero]) rfl ⟨A5, n5, c5, by rw [HV.out], ?_, hB⟩
 rw [HV.out]
 exact hG.cut.mono (by omega) (Nat.le_refl _)) : p := h -- b1aa2984

def take21 (s : St) (h : Hd) : St × Hd × Bool := if (s.at h.r).c || decide (h.tr ≤ (s.at h.r).t) then (s, { h with at_ := 23 }, true) else (s, { h with t := (s.at h.r).t, at_ := 22 }, true)
def take22 (s : St) (h : Hd) : St × Hd × Bool := ((raiseTail s h.r h.t h.tr).1, { h with at_ := if (raiseTail s h.r h.t h.tr).2 then 23 else 20 }, true)
def take23 (s : St) (h : Hd) : St × Hd × Bool := if h.ag then (s, { h with at_ := 24 }, true) else if (s.at h.r).x < 0 then (s, h.rest 3, true) else (s, { h with ag := true, at_ := 14 }, true)
def take24 (s : St) (h : Hd) : St × Hd × Bool := ((swing s false h.r (s.at h.r).x).1, { h with ag := false, at_ := 13 }, true)
set_option maxRecDepth 100000 in
set_option maxHeartbeats 4000000 in
theorem l7Fix_21 (s : St) (A : Option Addr) (n cap lo hi : Nat) (v r t : Int) (seen : Pl) (tr sp : Int) (ag : Bool) (re : Int) (w : World) (hs : RgsW lo hi w A n cap s.rs) (hh : hi ≤ w.heap.size) (hlo : lo ≤ w.heap.size) (hok : stOk s = true) (hrb : ringB s r = true) :
  Calls Tryz.prog 80 #[stV s A n cap, hdV ⟨21, v, r, t, seen, tr, sp, ag, re⟩] w (RetSHB lo (take21 s ⟨21, v, r, t, seen, tr, sp, ag, re⟩) w) := by
 have HOK := Lib.hid hok
 have HRB := Lib.hid hrb
 have HLN := Lib.hid hs.1
 have HNT := Lib.hid (stOk_neat hok)
 obtain ⟨z0, z1, z2⟩ := ringB_at HLN.out hrb
 clear hok hrb
 unfold stV hdV
 dsimp only
 go_enter Tryz.func80, Tryz.ntmps80
 go_upto_region 1 with fail
 refine wp_abs (fun W => Below w.heap.size w W ∧ BoxAt W w.heap.size (aS s A n cap) 32 ∧ BoxAt W (w.heap.size + 1) (dH 21 v r t seen tr sp ag re) 35 ∧ BoxAt W (w.heap.size + 1 + 1) zS 32 ∧ BoxAt W (w.heap.size + 1 + 1 + 1) zH 35) ⟨(((((Below.refl _ _).alloc (Nat.le_refl _) _).alloc (by simp) _).alloc (by simp; omega) _).alloc (by simp; omega) _), (((BoxAt.new _ _ _).alloc _).alloc _).alloc _, ((BoxAt.new' (by simp)).alloc _).alloc _, (BoxAt.new' (by simp)).alloc _, BoxAt.new' (by simp)⟩ ?_
 rintro W0 ⟨hB, hx, hy, hz, hw_⟩
 have lw0 := hw_.lt
 have hs0 := hs.below hB hh
 have kx := hx.cell
 have ky := hy.cell
 have fy := hy.frozen
 obtain ⟨b, rg, A', n', cap', rfl, hlb, hbh, hri, c0, c1', c2, c3, c4, hpw⟩ := hs0.at_ z2
 have HAT := Lib.hid (St.at_some (s := s) (z := r) hri)
 have hnum := stOk_nums HOK.out rg (List.mem_of_getElem? hri)
 clear hri
 go_upto_region 3 with fail
 refine wp_abs (fun W => Below w.heap.size w W ∧ BoxAt W w.heap.size (aS s (some ⟨b, 0, none⟩) n cap) 32 ∧ BoxAt W (w.heap.size + 1) (dH 21 v r t seen tr sp ag re) 35 ∧ BoxAt W (w.heap.size + 1 + 1) zS 32 ∧ BoxAt W (w.heap.size + 1 + 1 + 1) zH 35 ∧ BoxAt W W0.heap.size #[rg.h, rg.t, rg.c, rg.x, .slice A' n' cap'] 79) ⟨hB.alloc hB.size _, hx.alloc _, hy.alloc _, hz.alloc _, hw_.alloc _, BoxAt.new _ _ _⟩ ?_
 clear kx ky fy hB hx hy hz hw_ hs0 c0 c1' c2 c3 c4 hpw
 generalize W0.heap.size = Z at *
 rintro W0 ⟨hB, hx, hy, hz, hw_, hZ⟩
 have lZ := hZ.lt
 have lw2 := hw_.lt
 have hs0 := hs.below hB hh
 have kx := hx.cell
 have ky := hy.cell
 have fy := hy.frozen
 have kZ := hZ.cell
 cases hc0 : rg.c
 ·
  rw [hc0] at kZ
  by_cases h1 : tr ≤ rg.t
  ·
   have HC := Lib.hid (show ((s.at r).c || decide (tr ≤ (s.at r).t)) = true by rw [HAT.out]; simp [h1])
   go_upto_region 7 with fail
   have HV := Lib.hid (show take21 s ⟨21, v, r, t, seen, tr, sp, ag, re⟩ = (s, (⟨23, v, r, t, seen, tr, sp, ag, re⟩ : Hd), true) by simp only [take21, HC.out, if_true])
   refine ret4b w true s lo hi (some ⟨b, 0, none⟩) n cap (⟨23, v, r, t, seen, tr, sp, ag, re⟩ : Hd) w.heap.size (w.heap.size + 1) (by kernel_rfl) (by kernel_rfl) (by kernel_rfl) (by kernel_rfl) (by omega) (by omega) ⟨(sc hB), (hx.sn), by simpa using (hy.set 0 (.int .i64 23)), (hz.sn), (hw_.sn), (hs0.sr), by simp; omega⟩ ?k0 ?k1 ?k2 ?k3 ?k4 ?hQ
   case k0 | k1 | k2 | k3 =>
    exact ztakeJ2
   case k4 =>
    intros
    refine OpGoes.go fun K hK => ?_
    go_simp
    exact hK _ _ ⟨rfl, rfl⟩
   case hQ =>
    clear kx ky fy kZ hB hx hy hz hw_ hs0 hZ
    generalize hq2 : (⟨23, v, r, t, seen, tr, sp, ag, re⟩ : Hd) = h2 at *
    exact ztakeJ1
  ·
   have HC := Lib.hid (show ((s.at r).c || decide (tr ≤ (s.at r).t)) = false by rw [HAT.out]; simp [h1, hc0])
   go_upto_region 26 with fail
   have HV := Lib.hid (show take21 s ⟨21, v, r, t, seen, tr, sp, ag, re⟩ = (s, (⟨22, v, r, rg.t, seen, tr, sp, ag, re⟩ : Hd), true) by simp only [take21, HC.out]; rw [HAT.out]; rfl)
   refine ret4b w true s lo hi (some ⟨b, 0, none⟩) n cap (⟨22, v, r, rg.t, seen, tr, sp, ag, re⟩ : Hd) w.heap.size (w.heap.size + 1) (by kernel_rfl) (by kernel_rfl) (by kernel_rfl) (by kernel_rfl) (by omega) (by omega) ⟨(sc (sc hB)), ((hx.sn).sn), by simpa using ((hy.set 3 (.int .i64 rg.t)).set 0 (.int .i64 22)), ((hz.sn).sn), ((hw_.sn).sn), ((hs0.sr).sr), by simp; omega⟩ ?k0 ?k1 ?k2 ?k3 ?k4 ?hQ
   case k0 | k1 | k2 | k3 =>
    exact ztakeJ2
   case k4 =>
    intros
    refine OpGoes.go fun K hK => ?_
    go_simp
    exact hK _ _ ⟨rfl, rfl⟩
   case hQ =>
    clear kx ky fy kZ hB hx hy hz hw_ hs0 hZ
    generalize hq2 : (⟨22, v, r, rg.t, seen, tr, sp, ag, re⟩ : Hd) = h2 at *
    exact ztakeJ1
 ·
  rw [hc0] at kZ
  have HC := Lib.hid (show ((s.at r).c || decide (tr ≤ (s.at r).t)) = true by rw [HAT.out]; simp [hc0])
  go_upto_region 7 with fail
  have HV := Lib.hid (show take21 s ⟨21, v, r, t, seen, tr, sp, ag, re⟩ = (s, (⟨23, v, r, t, seen, tr, sp, ag, re⟩ : Hd), true) by simp only [take21, HC.out, if_true])
  refine ret4b w true s lo hi (some ⟨b, 0, none⟩) n cap (⟨23, v, r, t, seen, tr, sp, ag, re⟩ : Hd) w.heap.size (w.heap.size + 1) (by kernel_rfl) (by kernel_rfl) (by kernel_rfl) (by kernel_rfl) (by omega) (by omega) ⟨(sc hB), (hx.sn), by simpa using (hy.set 0 (.int .i64 23)), (hz.sn), (hw_.sn), (hs0.sr), by simp; omega⟩ ?k0 ?k1 ?k2 ?k3 ?k4 ?hQ
  case k0 | k1 | k2 | k3 =>
   exact ztakeJ2
  case k4 =>
   intros
   refine OpGoes.go fun K hK => ?_
   go_simp
   exact hK _ _ ⟨rfl, rfl⟩
  case hQ =>
   clear kx ky fy kZ hB hx hy hz hw_ hs0 hZ
   generalize hq2 : (⟨23, v, r, t, seen, tr, sp, ag, re⟩ : Hd) = h2 at *
   exact ztakeJ1
set_option maxRecDepth 100000 in
set_option maxHeartbeats 4000000 in
theorem l7Fix_23 (s : St) (A : Option Addr) (n cap lo hi : Nat) (v r t : Int) (seen : Pl) (tr sp : Int) (ag : Bool) (re : Int) (w : World) (hs : RgsW lo hi w A n cap s.rs) (hh : hi ≤ w.heap.size) (hlo : lo ≤ w.heap.size) (hok : stOk s = true) (hrb : ringB s r = true) :
  Calls Tryz.prog 80 #[stV s A n cap, hdV ⟨23, v, r, t, seen, tr, sp, ag, re⟩] w (RetSHB lo (take23 s ⟨23, v, r, t, seen, tr, sp, ag, re⟩) w) := by
 have HOK := Lib.hid hok
 have HRB := Lib.hid hrb
 have HLN := Lib.hid hs.1
 have HNT := Lib.hid (stOk_neat hok)
 obtain ⟨z0, z1, z2⟩ := ringB_at HLN.out hrb
 clear hok hrb
 unfold stV hdV
 dsimp only
 go_enter Tryz.func80, Tryz.ntmps80
 go_upto_region 1 with fail
 refine wp_abs (fun W => Below w.heap.size w W ∧ BoxAt W w.heap.size (aS s A n cap) 32 ∧ BoxAt W (w.heap.size + 1) (dH 23 v r t seen tr sp ag re) 35 ∧ BoxAt W (w.heap.size + 1 + 1) zS 32 ∧ BoxAt W (w.heap.size + 1 + 1 + 1) zH 35) ⟨(((((Below.refl _ _).alloc (Nat.le_refl _) _).alloc (by simp) _).alloc (by simp; omega) _).alloc (by simp; omega) _), (((BoxAt.new _ _ _).alloc _).alloc _).alloc _, ((BoxAt.new' (by simp)).alloc _).alloc _, (BoxAt.new' (by simp)).alloc _, BoxAt.new' (by simp)⟩ ?_
 rintro W0 ⟨hB, hx, hy, hz, hw_⟩
 have lw0 := hw_.lt
 have hs0 := hs.below hB hh
 have kx := hx.cell
 have ky := hy.cell
 have fy := hy.frozen
 obtain ⟨b, rg, A', n', cap', rfl, hlb, hbh, hri, c0, c1', c2, c3, c4, hpw⟩ := hs0.at_ z2
 have HAT := Lib.hid (St.at_some (s := s) (z := r) hri)
 have hnum := stOk_nums HOK.out rg (List.mem_of_getElem? hri)
 clear hri
 go_upto_region 3 with fail
 refine wp_abs (fun W => Below w.heap.size w W ∧ BoxAt W w.heap.size (aS s (some ⟨b, 0, none⟩) n cap) 32 ∧ BoxAt W (w.heap.size + 1) (dH 23 v r t seen tr sp ag re) 35 ∧ BoxAt W (w.heap.size + 1 + 1) zS 32 ∧ BoxAt W (w.heap.size + 1 + 1 + 1) zH 35 ∧ BoxAt W W0.heap.size #[rg.h, rg.t, rg.c, rg.x, .slice A' n' cap'] 79) ⟨hB.alloc hB.size _, hx.alloc _, hy.alloc _, hz.alloc _, hw_.alloc _, BoxAt.new _ _ _⟩ ?_
 clear kx ky fy hB hx hy hz hw_ hs0 c0 c1' c2 c3 c4 hpw
 generalize W0.heap.size = Z at *
 rintro W0 ⟨hB, hx, hy, hz, hw_, hZ⟩
 have lZ := hZ.lt
 have lw2 := hw_.lt
 have hs0 := hs.below hB hh
 have kx := hx.cell
 have ky := hy.cell
 have fy := hy.frozen
 have kZ := hZ.cell
 cases ag
 ·
  by_cases h1 : rg.x < 0
  ·
   have HC := Lib.hid (show ((s.at r).x < 0) = True by rw [HAT.out]; simp [h1])
   go_upto_region 19 with fail
   have HV := Lib.hid (show take23 s ⟨23, v, r, t, seen, tr, sp, false, re⟩ = (s, ((⟨23, v, r, t, seen, tr, sp, false, re⟩ : Hd)).rest 3, true) by simp only [take23, HC.out, if_true]; rfl)
   refine ret5b w true 3 s lo hi (some ⟨b, 0, none⟩) n cap (⟨23, v, r, t, seen, tr, sp, false, re⟩ : Hd) w.heap.size (w.heap.size + 1) (by kernel_rfl) (by kernel_rfl) (by kernel_rfl) (by kernel_rfl) (by kernel_rfl) (by omega) (by omega) ⟨hB, hx, by simpa using hy, hz, hw_, hs0, by omega⟩ ?k0 ?k1 ?k2 ?k3 ?k4 ?k5 ?hQ
   case k0 | k1 | k3 | k4 =>
    exact ztakeJ2
   case k5 =>
    intros
    refine OpGoes.go fun K hK => ?_
    go_simp
    exact hK _ _ ⟨rfl, rfl⟩
   case k2 =>
    intros
    refine OpGoes.go fun K hK => ?_
    go_simp
    refine (l6Rest_any (⟨23, v, r, t, seen, tr, sp, false, re⟩ : Hd) 3 _).mono ?_
    rintro e w1 ⟨rfl, hb1⟩
    exact ⟨_, rfl, hK _ _ ⟨rfl, hb1⟩⟩
   case hQ =>
    clear kx ky fy kZ hB hx hy hz hw_ hs0 hZ
    generalize hq2 : (⟨23, v, r, t, seen, tr, sp, false, re⟩ : Hd) = h2 at *
    clear hq2
    intro σ W' e_ hB k7 k8 hG _
    replace k7 := k7.cell
    replace k8 := k8.cell
    simp only [lexAll]
    go_simp
    go_step
    go_wp2
    refine bodyPost_ret (v := .tuple #[stV s (some ⟨b, 0, none⟩) n cap, hdV (h2.rest 3), .bool true]) (by simp [results, Tryz.results80, go_sem, k7, k8, stV, hdV, Hd.rest, Hd.zero]) rfl ⟨some ⟨b, 0, none⟩, n, cap, by rw [HV.out], ?_, hB⟩
    rw [HV.out]
    exact hG.cut.mono (by omega) (Nat.le_refl _)
  ·
   have HC := Lib.hid (show ((s.at r).x < 0) = False by rw [HAT.out]; simp [h1])
   go_upto_region 26 with fail
   have HV := Lib.hid (show take23 s ⟨23, v, r, t, seen, tr, sp, false, re⟩ = (s, (⟨14, v, r, t, seen, tr, sp, true, re⟩ : Hd), true) by simp only [take23, HC.out, if_false]; rfl)
   refine ret4b w true s lo hi (some ⟨b, 0, none⟩) n cap (⟨14, v, r, t, seen, tr, sp, true, re⟩ : Hd) w.heap.size (w.heap.size + 1) (by kernel_rfl) (by kernel_rfl) (by kernel_rfl) (by kernel_rfl) (by omega) (by omega) ⟨(sc (sc hB)), ((hx.sn).sn), by simpa using ((hy.set 10 (.bool true)).set 0 (.int .i64 14)), ((hz.sn).sn), ((hw_.sn).sn), ((hs0.sr).sr), by simp; omega⟩ ?k0 ?k1 ?k2 ?k3 ?k4 ?hQ
   case k0 | k1 | k2 | k3 =>
    exact ztakeJ2
   case k4 =>
    intros
    refine OpGoes.go fun K hK => ?_
    go_simp
    exact hK _ _ ⟨rfl, rfl⟩
   case hQ =>
    clear kx ky fy kZ hB hx hy hz hw_ hs0 hZ
    generalize hq2 : (⟨14, v, r, t, seen, tr, sp, true, re⟩ : Hd) = h2 at *
    exact ztakeJ1
 ·
  go_upto_region 17 with fail
  have HV := Lib.hid (show take23 s ⟨23, v, r, t, seen, tr, sp, true, re⟩ = (s, (⟨24, v, r, t, seen, tr, sp, true, re⟩ : Hd), true) by simp only [take23, if_true])
  refine ret4b w true s lo hi (some ⟨b, 0, none⟩) n cap (⟨24, v, r, t, seen, tr, sp, true, re⟩ : Hd) w.heap.size (w.heap.size + 1) (by kernel_rfl) (by kernel_rfl) (by kernel_rfl) (by kernel_rfl) (by omega) (by omega) ⟨(sc hB), (hx.sn), by simpa using (hy.set 0 (.int .i64 24)), (hz.sn), (hw_.sn), (hs0.sr), by simp; omega⟩ ?k0 ?k1 ?k2 ?k3 ?k4 ?hQ
  case k0 | k1 | k2 | k3 =>
   exact ztakeJ2
  case k4 =>
   intros
   refine OpGoes.go fun K hK => ?_
   go_simp
   exact hK _ _ ⟨rfl, rfl⟩
  case hQ =>
   clear kx ky fy kZ hB hx hy hz hw_ hs0 hZ
   generalize hq2 : (⟨24, v, r, t, seen, tr, sp, true, re⟩ : Hd) = h2 at *
   exact ztakeJ1
set_option maxRecDepth 100000 in
set_option maxHeartbeats 4000000 in
theorem l7Fix_24 (s : St) (A : Option Addr) (n cap lo hi : Nat) (v r t : Int) (seen : Pl) (tr sp : Int) (ag : Bool) (re : Int) (w : World) (hs : RgsW lo hi w A n cap s.rs) (hh : hi ≤ w.heap.size) (hlo : lo ≤ w.heap.size) (hok : stOk s = true) (hrb : ringB s r = true) :
  Calls Tryz.prog 80 #[stV s A n cap, hdV ⟨24, v, r, t, seen, tr, sp, ag, re⟩] w (RetSHB lo (take24 s ⟨24, v, r, t, seen, tr, sp, ag, re⟩) w) := by
 have HOK := Lib.hid hok
 have HRB := Lib.hid hrb
 have HLN := Lib.hid hs.1
 have HNT := Lib.hid (stOk_neat hok)
 obtain ⟨z0, z1, z2⟩ := ringB_at HLN.out hrb
 clear hok hrb
 unfold stV hdV
 dsimp only
 go_enter Tryz.func80, Tryz.ntmps80
 go_upto_region 1 with fail
 refine wp_abs (fun W => Below w.heap.size w W ∧ BoxAt W w.heap.size (aS s A n cap) 32 ∧ BoxAt W (w.heap.size + 1) (dH 24 v r t seen tr sp ag re) 35 ∧ BoxAt W (w.heap.size + 1 + 1) zS 32 ∧ BoxAt W (w.heap.size + 1 + 1 + 1) zH 35) ⟨(((((Below.refl _ _).alloc (Nat.le_refl _) _).alloc (by simp) _).alloc (by simp; omega) _).alloc (by simp; omega) _), (((BoxAt.new _ _ _).alloc _).alloc _).alloc _, ((BoxAt.new' (by simp)).alloc _).alloc _, (BoxAt.new' (by simp)).alloc _, BoxAt.new' (by simp)⟩ ?_
 rintro W0 ⟨hB, hx, hy, hz, hw_⟩
 have lw0 := hw_.lt
 have hs0 := hs.below hB hh
 have kx := hx.cell
 have ky := hy.cell
 have fy := hy.frozen
 obtain ⟨b, rg, A', n', cap', rfl, hlb, hbh, hri, c0, c1', c2, c3, c4, hpw⟩ := hs0.at_ z2
 have HAT := Lib.hid (St.at_some (s := s) (z := r) hri)
 have hnum := stOk_nums HOK.out rg (List.mem_of_getElem? hri)
 clear hri
 go_upto_region 3 with fail
 refine wp_abs (fun W => Below w.heap.size w W ∧ BoxAt W w.heap.size (aS s (some ⟨b, 0, none⟩) n cap) 32 ∧ BoxAt W (w.heap.size + 1) (dH 24 v r t seen tr sp ag re) 35 ∧ BoxAt W (w.heap.size + 1 + 1) zS 32 ∧ BoxAt W (w.heap.size + 1 + 1 + 1) zH 35 ∧ BoxAt W W0.heap.size #[rg.h, rg.t, rg.c, rg.x, .slice A' n' cap'] 79) ⟨hB.alloc hB.size _, hx.alloc _, hy.alloc _, hz.alloc _, hw_.alloc _, BoxAt.new _ _ _⟩ ?_
 clear kx ky fy hB hx hy hz hw_ hs0 c0 c1' c2 c3 c4 hpw
 generalize W0.heap.size = Z at *
 rintro W0 ⟨hB, hx, hy, hz, hw_, hZ⟩
 have lZ := hZ.lt
 have lw2 := hw_.lt
 have hs0 := hs.below hB hh
 have kx := hx.cell
 have ky := hy.cell
 have fy := hy.frozen
 have kZ := hZ.cell
 go_wp2_with fail
 clear kx ky fy kZ
 refine (sswing_any s (some ⟨b, 0, none⟩) n cap lo hi false r rg.x _ hs0 (Nat.le_trans hh hB.size) (by have := HNT.out.2.1; have := HLN.out; omega) HNT.out.len).mono ?_
 rintro e w1 ⟨A5, n5, c5, rfl, hG5, hb5⟩
 replace hx := hx.below hb5 hx.lt
 replace hy := hy.below hb5 hy.lt
 replace hz := hz.below hb5 hz.lt
 replace hw_ := hw_.below hb5 hw_.lt
 have h5 := hb5.size
 replace hB := bstep hB hB.size hb5
 clear hb5
 generalize hq5 : swing s false r rg.x = q at *
 have HQ5 := Lib.hid hq5; clear hq5
 unfold stV
 have kx := hx.cell
 have fx := hx.frozen
 have ky := hy.cell
 have fy := hy.frozen
 have hZ4 : w.heap.size + 4 ≤ W0.heap.size := by omega
 go_upto_region 26 with fail
 have HV := Lib.hid (show take24 s ⟨24, v, r, t, seen, tr, sp, ag, re⟩ = (q.1, (⟨13, v, r, t, seen, tr, sp, false, re⟩ : Hd), true) by simp only [take24, HAT.out, HQ5.out])
 refine ret4b w true q.1 W0.heap.size w1.heap.size A5 n5 c5 (⟨13, v, r, t, seen, tr, sp, false, re⟩ : Hd) w.heap.size (w.heap.size + 1) (by kernel_rfl) (by kernel_rfl) (by kernel_rfl) (by kernel_rfl) (by omega) (by omega) ⟨(sc (sc ((sc (sc (sc (sc (sc hB)))))))), (((sets_all (us := (aS q.1 A5 n5 c5)) hx rfl).sn).sn), by simpa using ((((((((hy.sn).sn).sn).sn).sn)).set 10 (.bool false)).set 0 (.int .i64 13)), ((((((((hz.sn).sn).sn).sn).sn)).sn).sn), ((((((((hw_.sn).sn).sn).sn).sn)).sn).sn), ((((((((hG5.sl).sl).sl).sl).sl)).sl).sl), by simp⟩ ?k0 ?k1 ?k2 ?k3 ?k4 ?hQ
 case k0 | k1 | k2 | k3 =>
  exact ztakeJ2
 case k4 =>
  intros
  refine OpGoes.go fun K hK => ?_
  go_simp
  exact hK _ _ ⟨rfl, rfl⟩
 case hQ =>
  clear kx fx ky fy hB hx hy hz hw_ hG5 hZ hs0
  generalize hq2 : (⟨13, v, r, t, seen, tr, sp, false, re⟩ : Hd) = h2 at *
  exact ztakeJ3
set_option maxRecDepth 100000 in
set_option maxHeartbeats 4000000 in
theorem l7Fix_22 (s : St) (A : Option Addr) (n cap lo hi : Nat) (v r t : Int) (seen : Pl) (tr sp : Int) (ag : Bool) (re : Int) (w : World) (hs : RgsW lo hi w A n cap s.rs) (hh : hi ≤ w.heap.size) (hlo : lo ≤ w.heap.size) (hok : stOk s = true) (hrb : ringB s r = true) :
  Calls Tryz.prog 80 #[stV s A n cap, hdV ⟨22, v, r, t, seen, tr, sp, ag, re⟩] w (RetSHB lo (take22 s ⟨22, v, r, t, seen, tr, sp, ag, re⟩) w) := by
 have HOK := Lib.hid hok
 have HRB := Lib.hid hrb
 have HLN := Lib.hid hs.1
 have HNT := Lib.hid (stOk_neat hok)
 obtain ⟨z0, z1, z2⟩ := ringB_at HLN.out hrb
 clear hok hrb
 unfold stV hdV
 dsimp only
 go_enter Tryz.func80, Tryz.ntmps80
 go_upto_region 1 with fail
 refine wp_abs (fun W => Below w.heap.size w W ∧ BoxAt W w.heap.size (aS s A n cap) 32 ∧ BoxAt W (w.heap.size + 1) (dH 22 v r t seen tr sp ag re) 35 ∧ BoxAt W (w.heap.size + 1 + 1) zS 32 ∧ BoxAt W (w.heap.size + 1 + 1 + 1) zH 35) ⟨(((((Below.refl _ _).alloc (Nat.le_refl _) _).alloc (by simp) _).alloc (by simp; omega) _).alloc (by simp; omega) _), (((BoxAt.new _ _ _).alloc _).alloc _).alloc _, ((BoxAt.new' (by simp)).alloc _).alloc _, (BoxAt.new' (by simp)).alloc _, BoxAt.new' (by simp)⟩ ?_
 rintro W0 ⟨hB, hx, hy, hz, hw_⟩
 have lw0 := hw_.lt
 have hs0 := hs.below hB hh
 have kx := hx.cell
 have ky := hy.cell
 have fy := hy.frozen
 obtain ⟨b, rg, A', n', cap', rfl, hlb, hbh, hri, c0, c1', c2, c3, c4, hpw⟩ := hs0.at_ z2
 have HAT := Lib.hid (St.at_some (s := s) (z := r) hri)
 have hnum := stOk_nums HOK.out rg (List.mem_of_getElem? hri)
 clear hri
 go_upto_region 3 with fail
 refine wp_abs (fun W => Below w.heap.size w W ∧ BoxAt W w.heap.size (aS s (some ⟨b, 0, none⟩) n cap) 32 ∧ BoxAt W (w.heap.size + 1) (dH 22 v r t seen tr sp ag re) 35 ∧ BoxAt W (w.heap.size + 1 + 1) zS 32 ∧ BoxAt W (w.heap.size + 1 + 1 + 1) zH 35 ∧ BoxAt W W0.heap.size #[rg.h, rg.t, rg.c, rg.x, .slice A' n' cap'] 79) ⟨hB.alloc hB.size _, hx.alloc _, hy.alloc _, hz.alloc _, hw_.alloc _, BoxAt.new _ _ _⟩ ?_
 clear kx ky fy hB hx hy hz hw_ hs0 c0 c1' c2 c3 c4 hpw
 generalize W0.heap.size = Z at *
 rintro W0 ⟨hB, hx, hy, hz, hw_, hZ⟩
 have lZ := hZ.lt
 have lw2 := hw_.lt
 have hs0 := hs.below hB hh
 have kx := hx.cell
 have ky := hy.cell
 have fy := hy.frozen
 have kZ := hZ.cell
 go_wp2_with fail
 clear kx ky fy kZ
 refine (sraiseTail_any s (some ⟨b, 0, none⟩) n cap lo hi r t tr _ hs0 (Nat.le_trans hh hB.size) (by have := HNT.out.2.1; have := HLN.out; omega) HNT.out.len).mono ?_
 rintro e w1 ⟨A5, n5, c5, rfl, hG5, hb5⟩
 replace hx := hx.below hb5 hx.lt
 replace hy := hy.below hb5 hy.lt
 replace hz := hz.below hb5 hz.lt
 replace hw_ := hw_.below hb5 hw_.lt
 have h5 := hb5.size
 replace hB := bstep hB hB.size hb5
 clear hb5
 generalize hq5 : raiseTail s r t tr = q at *
 have HQ5 := Lib.hid hq5; clear hq5
 unfold stV
 have kx := hx.cell
 have fx := hx.frozen
 have ky := hy.cell
 have fy := hy.frozen
 have hZ4 : w.heap.size + 4 ≤ W0.heap.size := by omega
 go_upto_region 12 with fail
 refine wp_abs (fun W => Below w.heap.size w W ∧ BoxAt W w.heap.size (aS s (some ⟨b, 0, none⟩) n cap) 32 ∧ BoxAt W (w.heap.size + 1) (dH 22 v r t seen tr sp ag re) 35 ∧ BoxAt W (w.heap.size + 1 + 1) zS 32 ∧ BoxAt W (w.heap.size + 1 + 1 + 1) zH 35 ∧ BoxAt W w1.heap.size (aS q.1 A5 n5 c5) 32 ∧ RgsW W0.heap.size w1.heap.size W A5 n5 c5 q.1.rs ∧ w1.heap.size ≤ W.heap.size) ⟨hB.alloc hB.size _, hx.alloc _, hy.alloc _, hz.alloc _, hw_.alloc _, BoxAt.new _ _ _, hG5.al (Nat.le_refl _) _, by simp⟩ ?_
 clear kx fx ky fy hB hx hy hz hw_ hG5
 rintro W2 ⟨hB, hx, hy, hz, hw_, hX, hG5, hS⟩
 have kx := hx.cell
 have fx := hx.frozen
 have ky := hy.cell
 have fy := hy.frozen
 have kX := hX.cell
 cases hq2 : q.2
 ·
  have HQ2 := Lib.hid hq2; clear hq2
  go_wp2_with fail
  refine (l7Then_any _ _ _ _).mono ?_
  rintro e w' ⟨rfl, rfl⟩
  dsimp only
  go_upto_region 26 with fail
  have HV := Lib.hid (show take22 s ⟨22, v, r, t, seen, tr, sp, ag, re⟩ = (q.1, (⟨20, v, r, t, seen, tr, sp, ag, re⟩ : Hd), true) by simp only [take22, HQ5.out, HQ2.out]; rfl)
  refine ret4b w true q.1 W0.heap.size w1.heap.size A5 n5 c5 (⟨20, v, r, t, seen, tr, sp, ag, re⟩ : Hd) w.heap.size (w.heap.size + 1) (by kernel_rfl) (by kernel_rfl) (by kernel_rfl) (by kernel_rfl) (by omega) (by omega) ⟨(sc ((sc (sc (sc (sc (sc hB))))))), ((sets_all (us := (aS q.1 A5 n5 c5)) hx rfl).sn), by simpa using (((((((hy.sn).sn).sn).sn).sn)).set 0 (.int .i64 20)), (((((((hz.sn).sn).sn).sn).sn)).sn), (((((((hw_.sn).sn).sn).sn).sn)).sn), (((((((hG5.sl).sl).sl).sl).sl)).sl), by simpa using hS⟩ ?k0 ?k1 ?k2 ?k3 ?k4 ?hQ
  case k0 | k1 | k2 | k3 =>
   exact ztakeJ2
  case k4 =>
   intros
   refine OpGoes.go fun K hK => ?_
   go_simp
   exact hK _ _ ⟨rfl, rfl⟩
  case hQ =>
   clear kx fx ky fy kX hB hx hy hz hw_ hX hG5 hZ hs0
   generalize hq2 : (⟨20, v, r, t, seen, tr, sp, ag, re⟩ : Hd) = h2 at *
   exact ztakeJ3
 ·
  have HQ2 := Lib.hid hq2; clear hq2
  go_wp2_with fail
  refine (l7Then_any _ _ _ _).mono ?_
  rintro e w' ⟨rfl, rfl⟩
  dsimp only
  go_upto_region 26 with fail
  have HV := Lib.hid (show take22 s ⟨22, v, r, t, seen, tr, sp, ag, re⟩ = (q.1, (⟨23, v, r, t, seen, tr, sp, ag, re⟩ : Hd), true) by simp only [take22, HQ5.out, HQ2.out]; rfl)
  refine ret4b w true q.1 W0.heap.size w1.heap.size A5 n5 c5 (⟨23, v, r, t, seen, tr, sp, ag, re⟩ : Hd) w.heap.size (w.heap.size + 1) (by kernel_rfl) (by kernel_rfl) (by kernel_rfl) (by kernel_rfl) (by omega) (by omega) ⟨(sc ((sc (sc (sc (sc (sc hB))))))), ((sets_all (us := (aS q.1 A5 n5 c5)) hx rfl).sn), by simpa using (((((((hy.sn).sn).sn).sn).sn)).set 0 (.int .i64 23)), (((((((hz.sn).sn).sn).sn).sn)).sn), (((((((hw_.sn).sn).sn).sn).sn)).sn), (((((((hG5.sl).sl).sl).sl).sl)).sl), by simpa using hS⟩ ?k0 ?k1 ?k2 ?k3 ?k4 ?hQ
  case k0 | k1 | k2 | k3 =>
   exact ztakeJ2
  case k4 =>
   intros
   refine OpGoes.go fun K hK => ?_
   go_simp
   exact hK _ _ ⟨rfl, rfl⟩
  case hQ =>
   clear kx fx ky fy kX hB hx hy hz hw_ hX hG5 hZ hs0
   generalize hq2 : (⟨23, v, r, t, seen, tr, sp, ag, re⟩ : Hd) = h2 at *
   exact ztakeJ3
end Go.Proofs.YthpckpnlohfcbaaGreatDoor
namespace Go.Proofs.YthpckpnlohfcbaaGreatDoor
set_option linter.unusedSimpArgs false
set_option linter.unusedVariables false
open Go.RowKit
set_option linter.unusedVariables false
attribute [local go_sem] OpUpon
attribute [local go_sem ↓] Go.wp_at_zero Go.wp_at_succ
def fixS (s : St) (h : Hd) : St × Hd × Bool := if h.at_ = 21 then take21 s h else if h.at_ = 22 then take22 s h else if h.at_ = 23 then take23 s h else take24 s h
def takeS (s : St) (h : Hd) : St × Hd × Bool :=
 if h.at_ = 13 then take13 s h else if h.at_ = 14 then take14 s h else if h.at_ = 15 then take15 s h else if h.at_ = 16 then take16 s h else if h.at_ = 17 then take17 s h else
 if h.at_ = 18 then take18 s h else if h.at_ = 19 then take19 s h else if h.at_ = 20 then take20 s h else fixS s h
theorem l7Fix_any (s : St) (A : Option Addr) (n cap lo hi : Nat) (h : Hd) (w : World) (hs : RgsW lo hi w A n cap s.rs) (hh : hi ≤ w.heap.size) (hlo : lo ≤ w.heap.size) (hok : stOk s = true) (hrb : ringB s h.r = true) (hat : h.at_ = 21 ∨ h.at_ = 22 ∨ h.at_ = 23 ∨ h.at_ = 24) :
  Calls Tryz.prog 80 #[stV s A n cap, hdV h] w (RetSHB lo (fixS s h) w) := by
 obtain ⟨a, v, r, t, seen, tr, sp, ag, re⟩ := h
 dsimp only at hat hrb
 rcases hat with rfl | rfl | rfl | rfl
 · exact l7Fix_21 s A n cap lo hi v r t seen tr sp ag re w hs hh hlo hok hrb
 · exact l7Fix_22 s A n cap lo hi v r t seen tr sp ag re w hs hh hlo hok hrb
 · exact l7Fix_23 s A n cap lo hi v r t seen tr sp ag re w hs hh hlo hok hrb
 · exact l7Fix_24 s A n cap lo hi v r t seen tr sp ag re w hs hh hlo hok hrb
set_option maxRecDepth 100000 in
set_option maxHeartbeats 4000000 in
theorem l7Take_21 (s : St) (A : Option Addr) (n cap lo hi : Nat) (v r t : Int) (seen : Pl) (tr sp : Int) (ag : Bool) (re : Int) (w : World) (hs : RgsW lo hi w A n cap s.rs) (hh : hi ≤ w.heap.size) (hlo : lo ≤ w.heap.size) (hok : stOk s = true) (hrb : ringB s r = true) :
  Calls Tryz.prog 51 #[stV s A n cap, hdV ⟨21, v, r, t, seen, tr, sp, ag, re⟩] w (RetSHB lo (takeS s ⟨21, v, r, t, seen, tr, sp, ag, re⟩) w) := by
 have HOK := Lib.hid hok
 have HRB := Lib.hid hrb
 have HLN := Lib.hid hs.1
 have HNT := Lib.hid (stOk_neat hok)
 obtain ⟨z0, z1, z2⟩ := ringB_at HLN.out hrb
 clear hok hrb
 unfold stV hdV
 dsimp only
 go_enter Tryz.func51, Tryz.ntmps51
 go_upto_region 6 with fail
 refine wp_abs (fun W => Below w.heap.size w W ∧ BoxAt W w.heap.size (aS s A n cap) 32 ∧ BoxAt W (w.heap.size + 1) (dH 21 v r t seen tr sp ag re) 35 ∧ BoxAt W (w.heap.size + 1 + 1) zS 32 ∧ BoxAt W (w.heap.size + 1 + 1 + 1) zH 35) ⟨(((((Below.refl _ _).alloc (Nat.le_refl _) _).alloc (by simp) _).alloc (by simp; omega) _).alloc (by simp; omega) _), (((BoxAt.new _ _ _).alloc _).alloc _).alloc _, ((BoxAt.new' (by simp)).alloc _).alloc _, (BoxAt.new' (by simp)).alloc _, BoxAt.new' (by simp)⟩ ?_
 rintro W0 ⟨hB, hx, hy, hz, hw_⟩
 have lw0 := hw_.lt
 have hs0 := hs.below hB hh
 have kx := hx.cell
 have ky := hy.cell
 have fy := hy.frozen
 go_wp2_with fail
 clear kx ky fy
 refine (l7Fix_any s A n cap lo hi (⟨21, v, r, t, seen, tr, sp, ag, re⟩ : Hd) _ hs0 (Nat.le_trans hh hB.size) (Nat.le_trans hlo hB.size) HOK.out HRB.out (by simp)).mono ?_
 rintro e w1 ⟨A5, n5, c5, rfl, hG5, hb5⟩
 replace hz := hz.below hb5 hz.lt
 replace hw_ := hw_.below hb5 hw_.lt
 have h5 := hb5.size
 replace hB := bstep hB hB.size hb5
 clear hb5 hx hy hs0
 have HV := Lib.hid (show takeS s (⟨21, v, r, t, seen, tr, sp, ag, re⟩ : Hd) = fixS s (⟨21, v, r, t, seen, tr, sp, ag, re⟩ : Hd) from rfl)
 generalize hq5 : fixS s (⟨21, v, r, t, seen, tr, sp, ag, re⟩ : Hd) = q at *
 exact ztakeJ0
set_option maxRecDepth 100000 in
set_option maxHeartbeats 4000000 in
theorem l7Take_22 (s : St) (A : Option Addr) (n cap lo hi : Nat) (v r t : Int) (seen : Pl) (tr sp : Int) (ag : Bool) (re : Int) (w : World) (hs : RgsW lo hi w A n cap s.rs) (hh : hi ≤ w.heap.size) (hlo : lo ≤ w.heap.size) (hok : stOk s = true) (hrb : ringB s r = true) :
  Calls Tryz.prog 51 #[stV s A n cap, hdV ⟨22, v, r, t, seen, tr, sp, ag, re⟩] w (RetSHB lo (takeS s ⟨22, v, r, t, seen, tr, sp, ag, re⟩) w) := by
 have HOK := Lib.hid hok
 have HRB := Lib.hid hrb
 have HLN := Lib.hid hs.1
 have HNT := Lib.hid (stOk_neat hok)
 obtain ⟨z0, z1, z2⟩ := ringB_at HLN.out hrb
 clear hok hrb
 unfold stV hdV
 dsimp only
 go_enter Tryz.func51, Tryz.ntmps51
 go_upto_region 6 with fail
 refine wp_abs (fun W => Below w.heap.size w W ∧ BoxAt W w.heap.size (aS s A n cap) 32 ∧ BoxAt W (w.heap.size + 1) (dH 22 v r t seen tr sp ag re) 35 ∧ BoxAt W (w.heap.size + 1 + 1) zS 32 ∧ BoxAt W (w.heap.size + 1 + 1 + 1) zH 35) ⟨(((((Below.refl _ _).alloc (Nat.le_refl _) _).alloc (by simp) _).alloc (by simp; omega) _).alloc (by simp; omega) _), (((BoxAt.new _ _ _).alloc _).alloc _).alloc _, ((BoxAt.new' (by simp)).alloc _).alloc _, (BoxAt.new' (by simp)).alloc _, BoxAt.new' (by simp)⟩ ?_
 rintro W0 ⟨hB, hx, hy, hz, hw_⟩
 have lw0 := hw_.lt
 have hs0 := hs.below hB hh
 have kx := hx.cell
 have ky := hy.cell
 have fy := hy.frozen
 go_wp2_with fail
 clear kx ky fy
 refine (l7Fix_any s A n cap lo hi (⟨22, v, r, t, seen, tr, sp, ag, re⟩ : Hd) _ hs0 (Nat.le_trans hh hB.size) (Nat.le_trans hlo hB.size) HOK.out HRB.out (by simp)).mono ?_
 rintro e w1 ⟨A5, n5, c5, rfl, hG5, hb5⟩
 replace hz := hz.below hb5 hz.lt
 replace hw_ := hw_.below hb5 hw_.lt
 have h5 := hb5.size
 replace hB := bstep hB hB.size hb5
 clear hb5 hx hy hs0
 have HV := Lib.hid (show takeS s (⟨22, v, r, t, seen, tr, sp, ag, re⟩ : Hd) = fixS s (⟨22, v, r, t, seen, tr, sp, ag, re⟩ : Hd) from rfl)
 generalize hq5 : fixS s (⟨22, v, r, t, seen, tr, sp, ag, re⟩ : Hd) = q at *
 exact ztakeJ0
set_option maxRecDepth 100000 in
set_option maxHeartbeats 4000000 in
theorem l7Take_23 (s : St) (A : Option Addr) (n cap lo hi : Nat) (v r t : Int) (seen : Pl) (tr sp : Int) (ag : Bool) (re : Int) (w : World) (hs : RgsW lo hi w A n cap s.rs) (hh : hi ≤ w.heap.size) (hlo : lo ≤ w.heap.size) (hok : stOk s = true) (hrb : ringB s r = true) :
  Calls Tryz.prog 51 #[stV s A n cap, hdV ⟨23, v, r, t, seen, tr, sp, ag, re⟩] w (RetSHB lo (takeS s ⟨23, v, r, t, seen, tr, sp, ag, re⟩) w) := by
 have HOK := Lib.hid hok
 have HRB := Lib.hid hrb
 have HLN := Lib.hid hs.1
 have HNT := Lib.hid (stOk_neat hok)
 obtain ⟨z0, z1, z2⟩ := ringB_at HLN.out hrb
 clear hok hrb
 unfold stV hdV
 dsimp only
 go_enter Tryz.func51, Tryz.ntmps51
 go_upto_region 6 with fail
 refine wp_abs (fun W => Below w.heap.size w W ∧ BoxAt W w.heap.size (aS s A n cap) 32 ∧ BoxAt W (w.heap.size + 1) (dH 23 v r t seen tr sp ag re) 35 ∧ BoxAt W (w.heap.size + 1 + 1) zS 32 ∧ BoxAt W (w.heap.size + 1 + 1 + 1) zH 35) ⟨(((((Below.refl _ _).alloc (Nat.le_refl _) _).alloc (by simp) _).alloc (by simp; omega) _).alloc (by simp; omega) _), (((BoxAt.new _ _ _).alloc _).alloc _).alloc _, ((BoxAt.new' (by simp)).alloc _).alloc _, (BoxAt.new' (by simp)).alloc _, BoxAt.new' (by simp)⟩ ?_
 rintro W0 ⟨hB, hx, hy, hz, hw_⟩
 have lw0 := hw_.lt
 have hs0 := hs.below hB hh
 have kx := hx.cell
 have ky := hy.cell
 have fy := hy.frozen
 go_wp2_with fail
 clear kx ky fy
 refine (l7Fix_any s A n cap lo hi (⟨23, v, r, t, seen, tr, sp, ag, re⟩ : Hd) _ hs0 (Nat.le_trans hh hB.size) (Nat.le_trans hlo hB.size) HOK.out HRB.out (by simp)).mono ?_
 rintro e w1 ⟨A5, n5, c5, rfl, hG5, hb5⟩
 replace hz := hz.below hb5 hz.lt
 replace hw_ := hw_.below hb5 hw_.lt
 have h5 := hb5.size
 replace hB := bstep hB hB.size hb5
 clear hb5 hx hy hs0
 have HV := Lib.hid (show takeS s (⟨23, v, r, t, seen, tr, sp, ag, re⟩ : Hd) = fixS s (⟨23, v, r, t, seen, tr, sp, ag, re⟩ : Hd) from rfl)
 generalize hq5 : fixS s (⟨23, v, r, t, seen, tr, sp, ag, re⟩ : Hd) = q at *
 exact ztakeJ0
set_option maxRecDepth 100000 in
set_option maxHeartbeats 4000000 in
theorem l7Take_24 (s : St) (A : Option Addr) (n cap lo hi : Nat) (v r t : Int) (seen : Pl) (tr sp : Int) (ag : Bool) (re : Int) (w : World) (hs : RgsW lo hi w A n cap s.rs) (hh : hi ≤ w.heap.size) (hlo : lo ≤ w.heap.size) (hok : stOk s = true) (hrb : ringB s r = true) :
  Calls Tryz.prog 51 #[stV s A n cap, hdV ⟨24, v, r, t, seen, tr, sp, ag, re⟩] w (RetSHB lo (takeS s ⟨24, v, r, t, seen, tr, sp, ag, re⟩) w) := by
 have HOK := Lib.hid hok
 have HRB := Lib.hid hrb
 have HLN := Lib.hid hs.1
 have HNT := Lib.hid (stOk_neat hok)
 obtain ⟨z0, z1, z2⟩ := ringB_at HLN.out hrb
 clear hok hrb
 unfold stV hdV
 dsimp only
 go_enter Tryz.func51, Tryz.ntmps51
 go_upto_region 6 with fail
 refine wp_abs (fun W => Below w.heap.size w W ∧ BoxAt W w.heap.size (aS s A n cap) 32 ∧ BoxAt W (w.heap.size + 1) (dH 24 v r t seen tr sp ag re) 35 ∧ BoxAt W (w.heap.size + 1 + 1) zS 32 ∧ BoxAt W (w.heap.size + 1 + 1 + 1) zH 35) ⟨(((((Below.refl _ _).alloc (Nat.le_refl _) _).alloc (by simp) _).alloc (by simp; omega) _).alloc (by simp; omega) _), (((BoxAt.new _ _ _).alloc _).alloc _).alloc _, ((BoxAt.new' (by simp)).alloc _).alloc _, (BoxAt.new' (by simp)).alloc _, BoxAt.new' (by simp)⟩ ?_
 rintro W0 ⟨hB, hx, hy, hz, hw_⟩
 have lw0 := hw_.lt
 have hs0 := hs.below hB hh
 have kx := hx.cell
 have ky := hy.cell
 have fy := hy.frozen
 go_wp2_with fail
 clear kx ky fy
 refine (l7Fix_any s A n cap lo hi (⟨24, v, r, t, seen, tr, sp, ag, re⟩ : Hd) _ hs0 (Nat.le_trans hh hB.size) (Nat.le_trans hlo hB.size) HOK.out HRB.out (by simp)).mono ?_
 rintro e w1 ⟨A5, n5, c5, rfl, hG5, hb5⟩
 replace hz := hz.below hb5 hz.lt
 replace hw_ := hw_.below hb5 hw_.lt
 have h5 := hb5.size
 replace hB := bstep hB hB.size hb5
 clear hb5 hx hy hs0
 have HV := Lib.hid (show takeS s (⟨24, v, r, t, seen, tr, sp, ag, re⟩ : Hd) = fixS s (⟨24, v, r, t, seen, tr, sp, ag, re⟩ : Hd) from rfl)
 generalize hq5 : fixS s (⟨24, v, r, t, seen, tr, sp, ag, re⟩ : Hd) = q at *
 exact ztakeJ0
def takeB (z : Int) : Bool := inB z 13 24
theorem l7Take_any (s : St) (A : Option Addr) (n cap lo hi : Nat) (h : Hd) (w : World) (hs : RgsW lo hi w A n cap s.rs) (hh : hi ≤ w.heap.size) (hlo : lo ≤ w.heap.size) (hok : stOk s = true) (hrb : ringB s h.r = true) (hho : h.ok = true) (hp : takeB h.at_ = true) :
  Calls Tryz.prog 51 #[stV s A n cap, hdV h] w (RetSHB lo (takeS s h) w) := by
 obtain ⟨ht, htr⟩ := hd_nums hho
 obtain ⟨a, v, r, t, seen, tr, sp, ag, re⟩ := h
 dsimp only at hrb hp ht htr
 have hc : a = 13 ∨ a = 14 ∨ a = 15 ∨ a = 16 ∨ a = 17 ∨ a = 18 ∨ a = 19 ∨ a = 20 ∨ a = 21 ∨ a = 22 ∨ a = 23 ∨ a = 24 := by
  simp only [takeB, inB, Bool.and_eq_true, decide_eq_true_eq] at hp
  omega
 clear hp hho
 rcases hc with rfl | rfl | rfl | rfl | rfl | rfl | rfl | rfl | rfl | rfl | rfl | rfl
 · exact l7Take_13 s A n cap lo hi v r t seen tr sp ag re w hs hh hlo hok hrb
 · exact l7Take_14 s A n cap lo hi v r t seen tr sp ag re w hs hh hlo hok hrb
 · exact l7Take_15 s A n cap lo hi v r t seen tr sp ag re w hs hh hlo hok hrb ht
 · exact l7Take_16 s A n cap lo hi v r t seen tr sp ag re w hs hh hlo hok hrb ht
 · exact l7Take_17 s A n cap lo hi v r t seen tr sp ag re w hs hh hlo hok hrb ht
 · exact l7Take_18 s A n cap lo hi v r t seen tr sp ag re w hs hh hlo hok hrb ht
 · exact l7Take_19 s A n cap lo hi v r t seen tr sp ag re w hs hh hlo hok hrb ht
 · exact l7Take_20 s A n cap lo hi v r t seen tr sp ag re w hs hh hlo hok hrb
 · exact l7Take_21 s A n cap lo hi v r t seen tr sp ag re w hs hh hlo hok hrb
 · exact l7Take_22 s A n cap lo hi v r t seen tr sp ag re w hs hh hlo hok hrb
 · exact l7Take_23 s A n cap lo hi v r t seen tr sp ag re w hs hh hlo hok hrb
 · exact l7Take_24 s A n cap lo hi v r t seen tr sp ag re w hs hh hlo hok hrb
end Go.Proofs.YthpckpnlohfcbaaGreatDoor
