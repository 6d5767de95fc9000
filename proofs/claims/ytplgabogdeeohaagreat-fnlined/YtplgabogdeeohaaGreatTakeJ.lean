/-
 A step of one who takes, of the model, whichever it is.
-/
import Derived.Test.YtplgabogdeeohaaGreatTake3
import Derived.Test.YtplgabogdeeohaaGreatFix
namespace Go.Proofs.YtplgabogdeeohaaGreat
set_option linter.unusedSimpArgs false
set_option linter.unusedVariables false
open Go.RowKit
set_option linter.unusedVariables false
attribute [local go_sem] OpUpon
attribute [local go_sem ↓] Go.wp_at_zero Go.wp_at_succ

def fixS (s : St) (h : Hd) : St × Hd × Bool := if h.at_ = 21 then take21 s h else if h.at_ = 22 then take22 s h else if h.at_ = 23 then take23 s h else take24 s h
def takeS (s : St) (h : Hd) : St × Hd × Bool :=
 if h.at_ = 13 then take13 s h else if h.at_ = 14 then take14 s h else if h.at_ = 15 then take15 s h else if h.at_ = 16 then take16 s h else if h.at_ = 17 then take17 s h else
 if h.at_ = 18 then take18 s h else if h.at_ = 19 then take19 s h else if h.at_ = 20 then take20 s h else fixS s h

theorem l7Fix_any (s : St) (A : Option Addr) (n cap lo hi : Nat) (h : Hd) (w : World) (hs : RgsW lo hi w A n cap s.rs) (hh : hi ≤ w.heap.size) (hlo : lo ≤ w.heap.size) (hok : stOk s = true) (hrb : ringB s h.r = true) (hat : h.at_ = 21 ∨ h.at_ = 22 ∨ h.at_ = 23 ∨ h.at_ = 24) :
  Calls Tryz.prog 103 #[stV s A n cap, hdV h] w (RetSHB lo (fixS s h) w) := by
 obtain ⟨a, v, r, t, seen, tr, sp, ag, re⟩ := h
 dsimp only at hat hrb
 rcases hat with rfl | rfl | rfl | rfl
 · exact l7Fix_21 s A n cap lo hi v r t seen tr sp ag re w hs hh hlo hok hrb
 · exact l7Fix_22 s A n cap lo hi v r t seen tr sp ag re w hs hh hlo hok hrb
 · exact l7Fix_23 s A n cap lo hi v r t seen tr sp ag re w hs hh hlo hok hrb
 · exact l7Fix_24 s A n cap lo hi v r t seen tr sp ag re w hs hh hlo hok hrb

set_option maxRecDepth 100000 in
set_option maxHeartbeats 4000000 in
theorem l7Take_21 (s : St) (A : Option Addr) (n cap lo hi : Nat) (v r t : Int) (seen : Pl) (tr sp : Int) (ag : Bool) (re : Int) (w : World) (hs : RgsW lo hi w A n cap s.rs) (hh : hi ≤ w.heap.size) (hlo : lo ≤ w.heap.size) (hok : stOk s = true) (hrb : ringB s r = true) :
  Calls Tryz.prog 92 #[stV s A n cap, hdV ⟨21, v, r, t, seen, tr, sp, ag, re⟩] w (RetSHB lo (takeS s ⟨21, v, r, t, seen, tr, sp, ag, re⟩) w) := by
 have HOK := Lib.hid hok
 have HRB := Lib.hid hrb
 have HLN := Lib.hid hs.1
 have HNT := Lib.hid (stOk_neat hok)
 obtain ⟨z0, z1, z2⟩ := ringB_at HLN.out hrb
 clear hok hrb
 unfold stV hdV
 dsimp only
 go_enter Tryz.func92, Tryz.ntmps92
 go_upto_region 6 with fail
 refine wp_abs (fun W => Below w.heap.size w W ∧ BoxAt W w.heap.size (aS s A n cap) 58 ∧ BoxAt W (w.heap.size + 1) (dH 21 v r t seen tr sp ag re) 97 ∧ BoxAt W (w.heap.size + 1 + 1) zS 58 ∧ BoxAt W (w.heap.size + 1 + 1 + 1) zH 97) ⟨(((((Below.refl _ _).alloc (Nat.le_refl _) _).alloc (by simp) _).alloc (by simp; omega) _).alloc (by simp; omega) _), (((BoxAt.new _ _ _).alloc _).alloc _).alloc _, ((BoxAt.new' (by simp)).alloc _).alloc _, (BoxAt.new' (by simp)).alloc _, BoxAt.new' (by simp)⟩ ?_
 rintro W0 ⟨hB, hx, hy, hz, hw_⟩
 have lw0 := hw_.lt
 have hs0 := hs.below hB hh
 have kx := hx.cell
 have ky := hy.cell
 have fy := hy.frozen
 go_wp2_with fail
 clear kx ky fy
 refine (l7Fix_any s A n cap lo hi (⟨21, v, r, t, seen, tr, sp, ag, re⟩ : Hd) _ hs0 (Nat.le_trans hh hB.size) (Nat.le_trans hlo hB.size) HOK.out HRB.out (by simp)).mono ?_
 rintro e w1 ⟨A5, n5, c5, rfl, hG5, hb5⟩
 replace hz := hz.below hb5 hz.lt
 replace hw_ := hw_.below hb5 hw_.lt
 have h5 := hb5.size
 replace hB := bstep hB hB.size hb5
 clear hb5 hx hy hs0
 have HV := Lib.hid (show takeS s (⟨21, v, r, t, seen, tr, sp, ag, re⟩ : Hd) = fixS s (⟨21, v, r, t, seen, tr, sp, ag, re⟩ : Hd) from rfl)
 generalize hq5 : fixS s (⟨21, v, r, t, seen, tr, sp, ag, re⟩ : Hd) = q at *
 clear hq5
 unfold stV hdV
 have kz := hz.cell
 have fz := hz.frozen
 have kw := hw_.cell
 have fw := hw_.frozen
 go_wp2
 refine bodyPost_ret (v := .tuple #[stV q.1 A5 n5 c5, hdV q.2.1, q.2.2]) (by simp [results, Tryz.results92, go_sem, kz, kw, stV, hdV]) rfl ⟨A5, n5, c5, by rw [HV.out], ?_, ?_⟩
 ·
  rw [HV.out]
  exact (RgsW.setsT (RgsW.setsT hG5 hz (by decide) (by decide) (aS q.1 A5 n5 c5) 0) (BoxAt.sets_ne (aS q.1 A5 n5 c5) 0 hw_ (by omega)) (by decide) (by decide) (aH q.2.1) 0).mono (Nat.le_refl _) (by simp)
 · exact Below.setCells (by omega) (aH q.2.1) 0 (Below.setCells (by omega) (aS q.1 A5 n5 c5) 0 hB)

set_option maxRecDepth 100000 in
set_option maxHeartbeats 4000000 in
theorem l7Take_22 (s : St) (A : Option Addr) (n cap lo hi : Nat) (v r t : Int) (seen : Pl) (tr sp : Int) (ag : Bool) (re : Int) (w : World) (hs : RgsW lo hi w A n cap s.rs) (hh : hi ≤ w.heap.size) (hlo : lo ≤ w.heap.size) (hok : stOk s = true) (hrb : ringB s r = true) :
  Calls Tryz.prog 92 #[stV s A n cap, hdV ⟨22, v, r, t, seen, tr, sp, ag, re⟩] w (RetSHB lo (takeS s ⟨22, v, r, t, seen, tr, sp, ag, re⟩) w) := by
 have HOK := Lib.hid hok
 have HRB := Lib.hid hrb
 have HLN := Lib.hid hs.1
 have HNT := Lib.hid (stOk_neat hok)
 obtain ⟨z0, z1, z2⟩ := ringB_at HLN.out hrb
 clear hok hrb
 unfold stV hdV
 dsimp only
 go_enter Tryz.func92, Tryz.ntmps92
 go_upto_region 6 with fail
 refine wp_abs (fun W => Below w.heap.size w W ∧ BoxAt W w.heap.size (aS s A n cap) 58 ∧ BoxAt W (w.heap.size + 1) (dH 22 v r t seen tr sp ag re) 97 ∧ BoxAt W (w.heap.size + 1 + 1) zS 58 ∧ BoxAt W (w.heap.size + 1 + 1 + 1) zH 97) ⟨(((((Below.refl _ _).alloc (Nat.le_refl _) _).alloc (by simp) _).alloc (by simp; omega) _).alloc (by simp; omega) _), (((BoxAt.new _ _ _).alloc _).alloc _).alloc _, ((BoxAt.new' (by simp)).alloc _).alloc _, (BoxAt.new' (by simp)).alloc _, BoxAt.new' (by simp)⟩ ?_
 rintro W0 ⟨hB, hx, hy, hz, hw_⟩
 have lw0 := hw_.lt
 have hs0 := hs.below hB hh
 have kx := hx.cell
 have ky := hy.cell
 have fy := hy.frozen
 go_wp2_with fail
 clear kx ky fy
 refine (l7Fix_any s A n cap lo hi (⟨22, v, r, t, seen, tr, sp, ag, re⟩ : Hd) _ hs0 (Nat.le_trans hh hB.size) (Nat.le_trans hlo hB.size) HOK.out HRB.out (by simp)).mono ?_
 rintro e w1 ⟨A5, n5, c5, rfl, hG5, hb5⟩
 replace hz := hz.below hb5 hz.lt
 replace hw_ := hw_.below hb5 hw_.lt
 have h5 := hb5.size
 replace hB := bstep hB hB.size hb5
 clear hb5 hx hy hs0
 have HV := Lib.hid (show takeS s (⟨22, v, r, t, seen, tr, sp, ag, re⟩ : Hd) = fixS s (⟨22, v, r, t, seen, tr, sp, ag, re⟩ : Hd) from rfl)
 generalize hq5 : fixS s (⟨22, v, r, t, seen, tr, sp, ag, re⟩ : Hd) = q at *
 clear hq5
 unfold stV hdV
 have kz := hz.cell
 have fz := hz.frozen
 have kw := hw_.cell
 have fw := hw_.frozen
 go_wp2
 refine bodyPost_ret (v := .tuple #[stV q.1 A5 n5 c5, hdV q.2.1, q.2.2]) (by simp [results, Tryz.results92, go_sem, kz, kw, stV, hdV]) rfl ⟨A5, n5, c5, by rw [HV.out], ?_, ?_⟩
 ·
  rw [HV.out]
  exact (RgsW.setsT (RgsW.setsT hG5 hz (by decide) (by decide) (aS q.1 A5 n5 c5) 0) (BoxAt.sets_ne (aS q.1 A5 n5 c5) 0 hw_ (by omega)) (by decide) (by decide) (aH q.2.1) 0).mono (Nat.le_refl _) (by simp)
 · exact Below.setCells (by omega) (aH q.2.1) 0 (Below.setCells (by omega) (aS q.1 A5 n5 c5) 0 hB)

set_option maxRecDepth 100000 in
set_option maxHeartbeats 4000000 in
theorem l7Take_23 (s : St) (A : Option Addr) (n cap lo hi : Nat) (v r t : Int) (seen : Pl) (tr sp : Int) (ag : Bool) (re : Int) (w : World) (hs : RgsW lo hi w A n cap s.rs) (hh : hi ≤ w.heap.size) (hlo : lo ≤ w.heap.size) (hok : stOk s = true) (hrb : ringB s r = true) :
  Calls Tryz.prog 92 #[stV s A n cap, hdV ⟨23, v, r, t, seen, tr, sp, ag, re⟩] w (RetSHB lo (takeS s ⟨23, v, r, t, seen, tr, sp, ag, re⟩) w) := by
 have HOK := Lib.hid hok
 have HRB := Lib.hid hrb
 have HLN := Lib.hid hs.1
 have HNT := Lib.hid (stOk_neat hok)
 obtain ⟨z0, z1, z2⟩ := ringB_at HLN.out hrb
 clear hok hrb
 unfold stV hdV
 dsimp only
 go_enter Tryz.func92, Tryz.ntmps92
 go_upto_region 6 with fail
 refine wp_abs (fun W => Below w.heap.size w W ∧ BoxAt W w.heap.size (aS s A n cap) 58 ∧ BoxAt W (w.heap.size + 1) (dH 23 v r t seen tr sp ag re) 97 ∧ BoxAt W (w.heap.size + 1 + 1) zS 58 ∧ BoxAt W (w.heap.size + 1 + 1 + 1) zH 97) ⟨(((((Below.refl _ _).alloc (Nat.le_refl _) _).alloc (by simp) _).alloc (by simp; omega) _).alloc (by simp; omega) _), (((BoxAt.new _ _ _).alloc _).alloc _).alloc _, ((BoxAt.new' (by simp)).alloc _).alloc _, (BoxAt.new' (by simp)).alloc _, BoxAt.new' (by simp)⟩ ?_
 rintro W0 ⟨hB, hx, hy, hz, hw_⟩
 have lw0 := hw_.lt
 have hs0 := hs.below hB hh
 have kx := hx.cell
 have ky := hy.cell
 have fy := hy.frozen
 go_wp2_with fail
 clear kx ky fy
 refine (l7Fix_any s A n cap lo hi (⟨23, v, r, t, seen, tr, sp, ag, re⟩ : Hd) _ hs0 (Nat.le_trans hh hB.size) (Nat.le_trans hlo hB.size) HOK.out HRB.out (by simp)).mono ?_
 rintro e w1 ⟨A5, n5, c5, rfl, hG5, hb5⟩
 replace hz := hz.below hb5 hz.lt
 replace hw_ := hw_.below hb5 hw_.lt
 have h5 := hb5.size
 replace hB := bstep hB hB.size hb5
 clear hb5 hx hy hs0
 have HV := Lib.hid (show takeS s (⟨23, v, r, t, seen, tr, sp, ag, re⟩ : Hd) = fixS s (⟨23, v, r, t, seen, tr, sp, ag, re⟩ : Hd) from rfl)
 generalize hq5 : fixS s (⟨23, v, r, t, seen, tr, sp, ag, re⟩ : Hd) = q at *
 clear hq5
 unfold stV hdV
 have kz := hz.cell
 have fz := hz.frozen
 have kw := hw_.cell
 have fw := hw_.frozen
 go_wp2
 refine bodyPost_ret (v := .tuple #[stV q.1 A5 n5 c5, hdV q.2.1, q.2.2]) (by simp [results, Tryz.results92, go_sem, kz, kw, stV, hdV]) rfl ⟨A5, n5, c5, by rw [HV.out], ?_, ?_⟩
 ·
  rw [HV.out]
  exact (RgsW.setsT (RgsW.setsT hG5 hz (by decide) (by decide) (aS q.1 A5 n5 c5) 0) (BoxAt.sets_ne (aS q.1 A5 n5 c5) 0 hw_ (by omega)) (by decide) (by decide) (aH q.2.1) 0).mono (Nat.le_refl _) (by simp)
 · exact Below.setCells (by omega) (aH q.2.1) 0 (Below.setCells (by omega) (aS q.1 A5 n5 c5) 0 hB)

set_option maxRecDepth 100000 in
set_option maxHeartbeats 4000000 in
theorem l7Take_24 (s : St) (A : Option Addr) (n cap lo hi : Nat) (v r t : Int) (seen : Pl) (tr sp : Int) (ag : Bool) (re : Int) (w : World) (hs : RgsW lo hi w A n cap s.rs) (hh : hi ≤ w.heap.size) (hlo : lo ≤ w.heap.size) (hok : stOk s = true) (hrb : ringB s r = true) :
  Calls Tryz.prog 92 #[stV s A n cap, hdV ⟨24, v, r, t, seen, tr, sp, ag, re⟩] w (RetSHB lo (takeS s ⟨24, v, r, t, seen, tr, sp, ag, re⟩) w) := by
 have HOK := Lib.hid hok
 have HRB := Lib.hid hrb
 have HLN := Lib.hid hs.1
 have HNT := Lib.hid (stOk_neat hok)
 obtain ⟨z0, z1, z2⟩ := ringB_at HLN.out hrb
 clear hok hrb
 unfold stV hdV
 dsimp only
 go_enter Tryz.func92, Tryz.ntmps92
 go_upto_region 6 with fail
 refine wp_abs (fun W => Below w.heap.size w W ∧ BoxAt W w.heap.size (aS s A n cap) 58 ∧ BoxAt W (w.heap.size + 1) (dH 24 v r t seen tr sp ag re) 97 ∧ BoxAt W (w.heap.size + 1 + 1) zS 58 ∧ BoxAt W (w.heap.size + 1 + 1 + 1) zH 97) ⟨(((((Below.refl _ _).alloc (Nat.le_refl _) _).alloc (by simp) _).alloc (by simp; omega) _).alloc (by simp; omega) _), (((BoxAt.new _ _ _).alloc _).alloc _).alloc _, ((BoxAt.new' (by simp)).alloc _).alloc _, (BoxAt.new' (by simp)).alloc _, BoxAt.new' (by simp)⟩ ?_
 rintro W0 ⟨hB, hx, hy, hz, hw_⟩
 have lw0 := hw_.lt
 have hs0 := hs.below hB hh
 have kx := hx.cell
 have ky := hy.cell
 have fy := hy.frozen
 go_wp2_with fail
 clear kx ky fy
 refine (l7Fix_any s A n cap lo hi (⟨24, v, r, t, seen, tr, sp, ag, re⟩ : Hd) _ hs0 (Nat.le_trans hh hB.size) (Nat.le_trans hlo hB.size) HOK.out HRB.out (by simp)).mono ?_
 rintro e w1 ⟨A5, n5, c5, rfl, hG5, hb5⟩
 replace hz := hz.below hb5 hz.lt
 replace hw_ := hw_.below hb5 hw_.lt
 have h5 := hb5.size
 replace hB := bstep hB hB.size hb5
 clear hb5 hx hy hs0
 have HV := Lib.hid (show takeS s (⟨24, v, r, t, seen, tr, sp, ag, re⟩ : Hd) = fixS s (⟨24, v, r, t, seen, tr, sp, ag, re⟩ : Hd) from rfl)
 generalize hq5 : fixS s (⟨24, v, r, t, seen, tr, sp, ag, re⟩ : Hd) = q at *
 clear hq5
 unfold stV hdV
 have kz := hz.cell
 have fz := hz.frozen
 have kw := hw_.cell
 have fw := hw_.frozen
 go_wp2
 refine bodyPost_ret (v := .tuple #[stV q.1 A5 n5 c5, hdV q.2.1, q.2.2]) (by simp [results, Tryz.results92, go_sem, kz, kw, stV, hdV]) rfl ⟨A5, n5, c5, by rw [HV.out], ?_, ?_⟩
 ·
  rw [HV.out]
  exact (RgsW.setsT (RgsW.setsT hG5 hz (by decide) (by decide) (aS q.1 A5 n5 c5) 0) (BoxAt.sets_ne (aS q.1 A5 n5 c5) 0 hw_ (by omega)) (by decide) (by decide) (aH q.2.1) 0).mono (Nat.le_refl _) (by simp)
 · exact Below.setCells (by omega) (aH q.2.1) 0 (Below.setCells (by omega) (aS q.1 A5 n5 c5) 0 hB)

def takeB (z : Int) : Bool := inB z 13 24

theorem l7Take_any (s : St) (A : Option Addr) (n cap lo hi : Nat) (h : Hd) (w : World) (hs : RgsW lo hi w A n cap s.rs) (hh : hi ≤ w.heap.size) (hlo : lo ≤ w.heap.size) (hok : stOk s = true) (hrb : ringB s h.r = true) (hho : h.ok = true) (hp : takeB h.at_ = true) :
  Calls Tryz.prog 92 #[stV s A n cap, hdV h] w (RetSHB lo (takeS s h) w) := by
 obtain ⟨ht, htr⟩ := hd_nums hho
 obtain ⟨a, v, r, t, seen, tr, sp, ag, re⟩ := h
 dsimp only at hrb hp ht htr
 have hc : a = 13 ∨ a = 14 ∨ a = 15 ∨ a = 16 ∨ a = 17 ∨ a = 18 ∨ a = 19 ∨ a = 20 ∨ a = 21 ∨ a = 22 ∨ a = 23 ∨ a = 24 := by
  simp only [takeB, inB, Bool.and_eq_true, decide_eq_true_eq] at hp
  omega
 clear hp hho
 rcases hc with rfl | rfl | rfl | rfl | rfl | rfl | rfl | rfl | rfl | rfl | rfl | rfl
 · exact l7Take_13 s A n cap lo hi v r t seen tr sp ag re w hs hh hlo hok hrb
 · exact l7Take_14 s A n cap lo hi v r t seen tr sp ag re w hs hh hlo hok hrb
 · exact l7Take_15 s A n cap lo hi v r t seen tr sp ag re w hs hh hlo hok hrb ht
 · exact l7Take_16 s A n cap lo hi v r t seen tr sp ag re w hs hh hlo hok hrb ht
 · exact l7Take_17 s A n cap lo hi v r t seen tr sp ag re w hs hh hlo hok hrb ht
 · exact l7Take_18 s A n cap lo hi v r t seen tr sp ag re w hs hh hlo hok hrb ht
 · exact l7Take_19 s A n cap lo hi v r t seen tr sp ag re w hs hh hlo hok hrb ht
 · exact l7Take_20 s A n cap lo hi v r t seen tr sp ag re w hs hh hlo hok hrb
 · exact l7Take_21 s A n cap lo hi v r t seen tr sp ag re w hs hh hlo hok hrb
 · exact l7Take_22 s A n cap lo hi v r t seen tr sp ag re w hs hh hlo hok hrb
 · exact l7Take_23 s A n cap lo hi v r t seen tr sp ag re w hs hh hlo hok hrb
 · exact l7Take_24 s A n cap lo hi v r t seen tr sp ag re w hs hh hlo hok hrb

end Go.Proofs.YtplgabogdeeohaaGreat
