/-
 A step of one who puts, of the model, whichever it is.
-/
import Derived.Test.YtplgabogdeeohaaGreatMake2
import Derived.Test.YtplgabogdeeohaaGreatPut8
namespace Go.Proofs.YtplgabogdeeohaaGreat
set_option linter.unusedSimpArgs false
set_option linter.unusedVariables false
open Go.RowKit
set_option linter.unusedVariables false
attribute [local go_sem] OpUpon
attribute [local go_sem ↓] Go.wp_at_zero Go.wp_at_succ

def makeS (s : St) (h : Hd) : St × Hd × Bool := if h.at_ = 10 then make10 s h else if h.at_ = 11 then make11 s h else make12 s h
def putS (s : St) (h : Hd) : St × Hd × Bool :=
 if h.at_ = 1 then put1 s h else if h.at_ = 2 then put2 s h else if h.at_ = 3 then put3 s h else if h.at_ = 4 then put4 s h else if h.at_ = 5 then put5 s h else
 if h.at_ = 6 then put6 s h else if h.at_ = 7 then put7 s h else if h.at_ = 8 then put8 s h else if h.at_ = 9 then put9 s h else makeS s h

theorem l6Make_any (s : St) (A : Option Addr) (n cap lo hi : Nat) (h : Hd) (w : World) (hs : RgsW lo hi w A n cap s.rs) (hh : hi ≤ w.heap.size) (hlo : lo ≤ w.heap.size) (hok : stOk s = true) (hat : h.at_ = 10 ∨ h.at_ = 11 ∨ h.at_ = 12) :
  Calls Tryz.prog 99 #[stV s A n cap, hdV h] w (RetSHB lo (makeS s h) w) := by
 obtain ⟨a, v, r, t, seen, tr, sp, ag, re⟩ := h
 dsimp only at hat
 rcases hat with rfl | rfl | rfl
 ·
  by_cases hsp : 0 ≤ sp
  · exact l6Make_10b s A n cap lo hi v r t seen tr sp ag re w hs hh hlo hok hsp
  · exact l6Make_10a s A n cap lo hi v r t seen tr sp ag re w hs hh hlo hok (by omega)
 · exact l6Make_11 s A n cap lo hi v r t seen tr sp ag re w hs hh hlo hok
 · exact l6Make_12 s A n cap lo hi v r t seen tr sp ag re w hs hh hlo hok

set_option maxRecDepth 100000 in
set_option maxHeartbeats 4000000 in
theorem l6Put_10 (s : St) (A : Option Addr) (n cap lo hi : Nat) (v r t : Int) (seen : Pl) (tr sp : Int) (ag : Bool) (re : Int) (w : World) (hs : RgsW lo hi w A n cap s.rs) (hh : hi ≤ w.heap.size) (hlo : lo ≤ w.heap.size) (hok : stOk s = true) (hrb : ringB s r = true) :
  Calls Tryz.prog 91 #[stV s A n cap, hdV ⟨10, v, r, t, seen, tr, sp, ag, re⟩] w (RetSHB lo (putS s ⟨10, v, r, t, seen, tr, sp, ag, re⟩) w) := by
 have HOK := Lib.hid hok
 have HRB := Lib.hid hrb
 have HLN := Lib.hid hs.1
 have HNT := Lib.hid (stOk_neat hok)
 obtain ⟨z0, z1, z2⟩ := ringB_at HLN.out hrb
 clear hok hrb
 unfold stV hdV
 dsimp only
 go_enter Tryz.func91, Tryz.ntmps91
 go_upto_region 5 with fail
 refine wp_abs (fun W => Below w.heap.size w W ∧ BoxAt W w.heap.size (aS s A n cap) 58 ∧ BoxAt W (w.heap.size + 1) (dH 10 v r t seen tr sp ag re) 97 ∧ BoxAt W (w.heap.size + 1 + 1) zS 58 ∧ BoxAt W (w.heap.size + 1 + 1 + 1) zH 97) ⟨(((((Below.refl _ _).alloc (Nat.le_refl _) _).alloc (by simp) _).alloc (by simp; omega) _).alloc (by simp; omega) _), (((BoxAt.new _ _ _).alloc _).alloc _).alloc _, ((BoxAt.new' (by simp)).alloc _).alloc _, (BoxAt.new' (by simp)).alloc _, BoxAt.new' (by simp)⟩ ?_
 rintro W0 ⟨hB, hx, hy, hz, hw_⟩
 have lw0 := hw_.lt
 have hs0 := hs.below hB hh
 have kx := hx.cell
 have ky := hy.cell
 have fy := hy.frozen
 go_wp2_with fail
 clear kx ky fy
 refine (l6Make_any s A n cap lo hi (⟨10, v, r, t, seen, tr, sp, ag, re⟩ : Hd) _ hs0 (Nat.le_trans hh hB.size) (Nat.le_trans hlo hB.size) HOK.out (by simp)).mono ?_
 rintro e w1 ⟨A5, n5, c5, rfl, hG5, hb5⟩
 replace hz := hz.below hb5 hz.lt
 replace hw_ := hw_.below hb5 hw_.lt
 have h5 := hb5.size
 replace hB := bstep hB hB.size hb5
 clear hb5 hx hy hs0
 have HV := Lib.hid (show putS s (⟨10, v, r, t, seen, tr, sp, ag, re⟩ : Hd) = makeS s (⟨10, v, r, t, seen, tr, sp, ag, re⟩ : Hd) from rfl)
 generalize hq5 : makeS s (⟨10, v, r, t, seen, tr, sp, ag, re⟩ : Hd) = q at *
 clear hq5
 unfold stV hdV
 have kz := hz.cell
 have fz := hz.frozen
 have kw := hw_.cell
 have fw := hw_.frozen
 go_wp2
 refine bodyPost_ret (v := .tuple #[stV q.1 A5 n5 c5, hdV q.2.1, q.2.2]) (by simp [results, Tryz.results91, go_sem, kz, kw, stV, hdV]) rfl ⟨A5, n5, c5, by rw [HV.out], ?_, ?_⟩
 ·
  rw [HV.out]
  exact (RgsW.setsT (RgsW.setsT hG5 hz (by decide) (by decide) (aS q.1 A5 n5 c5) 0) (BoxAt.sets_ne (aS q.1 A5 n5 c5) 0 hw_ (by omega)) (by decide) (by decide) (aH q.2.1) 0).mono (Nat.le_refl _) (by simp)
 · exact Below.setCells (by omega) (aH q.2.1) 0 (Below.setCells (by omega) (aS q.1 A5 n5 c5) 0 hB)

set_option maxRecDepth 100000 in
set_option maxHeartbeats 4000000 in
theorem l6Put_11 (s : St) (A : Option Addr) (n cap lo hi : Nat) (v r t : Int) (seen : Pl) (tr sp : Int) (ag : Bool) (re : Int) (w : World) (hs : RgsW lo hi w A n cap s.rs) (hh : hi ≤ w.heap.size) (hlo : lo ≤ w.heap.size) (hok : stOk s = true) (hrb : ringB s r = true) :
  Calls Tryz.prog 91 #[stV s A n cap, hdV ⟨11, v, r, t, seen, tr, sp, ag, re⟩] w (RetSHB lo (putS s ⟨11, v, r, t, seen, tr, sp, ag, re⟩) w) := by
 have HOK := Lib.hid hok
 have HRB := Lib.hid hrb
 have HLN := Lib.hid hs.1
 have HNT := Lib.hid (stOk_neat hok)
 obtain ⟨z0, z1, z2⟩ := ringB_at HLN.out hrb
 clear hok hrb
 unfold stV hdV
 dsimp only
 go_enter Tryz.func91, Tryz.ntmps91
 go_upto_region 5 with fail
 refine wp_abs (fun W => Below w.heap.size w W ∧ BoxAt W w.heap.size (aS s A n cap) 58 ∧ BoxAt W (w.heap.size + 1) (dH 11 v r t seen tr sp ag re) 97 ∧ BoxAt W (w.heap.size + 1 + 1) zS 58 ∧ BoxAt W (w.heap.size + 1 + 1 + 1) zH 97) ⟨(((((Below.refl _ _).alloc (Nat.le_refl _) _).alloc (by simp) _).alloc (by simp; omega) _).alloc (by simp; omega) _), (((BoxAt.new _ _ _).alloc _).alloc _).alloc _, ((BoxAt.new' (by simp)).alloc _).alloc _, (BoxAt.new' (by simp)).alloc _, BoxAt.new' (by simp)⟩ ?_
 rintro W0 ⟨hB, hx, hy, hz, hw_⟩
 have lw0 := hw_.lt
 have hs0 := hs.below hB hh
 have kx := hx.cell
 have ky := hy.cell
 have fy := hy.frozen
 go_wp2_with fail
 clear kx ky fy
 refine (l6Make_any s A n cap lo hi (⟨11, v, r, t, seen, tr, sp, ag, re⟩ : Hd) _ hs0 (Nat.le_trans hh hB.size) (Nat.le_trans hlo hB.size) HOK.out (by simp)).mono ?_
 rintro e w1 ⟨A5, n5, c5, rfl, hG5, hb5⟩
 replace hz := hz.below hb5 hz.lt
 replace hw_ := hw_.below hb5 hw_.lt
 have h5 := hb5.size
 replace hB := bstep hB hB.size hb5
 clear hb5 hx hy hs0
 have HV := Lib.hid (show putS s (⟨11, v, r, t, seen, tr, sp, ag, re⟩ : Hd) = makeS s (⟨11, v, r, t, seen, tr, sp, ag, re⟩ : Hd) from rfl)
 generalize hq5 : makeS s (⟨11, v, r, t, seen, tr, sp, ag, re⟩ : Hd) = q at *
 clear hq5
 unfold stV hdV
 have kz := hz.cell
 have fz := hz.frozen
 have kw := hw_.cell
 have fw := hw_.frozen
 go_wp2
 refine bodyPost_ret (v := .tuple #[stV q.1 A5 n5 c5, hdV q.2.1, q.2.2]) (by simp [results, Tryz.results91, go_sem, kz, kw, stV, hdV]) rfl ⟨A5, n5, c5, by rw [HV.out], ?_, ?_⟩
 ·
  rw [HV.out]
  exact (RgsW.setsT (RgsW.setsT hG5 hz (by decide) (by decide) (aS q.1 A5 n5 c5) 0) (BoxAt.sets_ne (aS q.1 A5 n5 c5) 0 hw_ (by omega)) (by decide) (by decide) (aH q.2.1) 0).mono (Nat.le_refl _) (by simp)
 · exact Below.setCells (by omega) (aH q.2.1) 0 (Below.setCells (by omega) (aS q.1 A5 n5 c5) 0 hB)

set_option maxRecDepth 100000 in
set_option maxHeartbeats 4000000 in
theorem l6Put_12 (s : St) (A : Option Addr) (n cap lo hi : Nat) (v r t : Int) (seen : Pl) (tr sp : Int) (ag : Bool) (re : Int) (w : World) (hs : RgsW lo hi w A n cap s.rs) (hh : hi ≤ w.heap.size) (hlo : lo ≤ w.heap.size) (hok : stOk s = true) (hrb : ringB s r = true) :
  Calls Tryz.prog 91 #[stV s A n cap, hdV ⟨12, v, r, t, seen, tr, sp, ag, re⟩] w (RetSHB lo (putS s ⟨12, v, r, t, seen, tr, sp, ag, re⟩) w) := by
 have HOK := Lib.hid hok
 have HRB := Lib.hid hrb
 have HLN := Lib.hid hs.1
 have HNT := Lib.hid (stOk_neat hok)
 obtain ⟨z0, z1, z2⟩ := ringB_at HLN.out hrb
 clear hok hrb
 unfold stV hdV
 dsimp only
 go_enter Tryz.func91, Tryz.ntmps91
 go_upto_region 5 with fail
 refine wp_abs (fun W => Below w.heap.size w W ∧ BoxAt W w.heap.size (aS s A n cap) 58 ∧ BoxAt W (w.heap.size + 1) (dH 12 v r t seen tr sp ag re) 97 ∧ BoxAt W (w.heap.size + 1 + 1) zS 58 ∧ BoxAt W (w.heap.size + 1 + 1 + 1) zH 97) ⟨(((((Below.refl _ _).alloc (Nat.le_refl _) _).alloc (by simp) _).alloc (by simp; omega) _).alloc (by simp; omega) _), (((BoxAt.new _ _ _).alloc _).alloc _).alloc _, ((BoxAt.new' (by simp)).alloc _).alloc _, (BoxAt.new' (by simp)).alloc _, BoxAt.new' (by simp)⟩ ?_
 rintro W0 ⟨hB, hx, hy, hz, hw_⟩
 have lw0 := hw_.lt
 have hs0 := hs.below hB hh
 have kx := hx.cell
 have ky := hy.cell
 have fy := hy.frozen
 go_wp2_with fail
 clear kx ky fy
 refine (l6Make_any s A n cap lo hi (⟨12, v, r, t, seen, tr, sp, ag, re⟩ : Hd) _ hs0 (Nat.le_trans hh hB.size) (Nat.le_trans hlo hB.size) HOK.out (by simp)).mono ?_
 rintro e w1 ⟨A5, n5, c5, rfl, hG5, hb5⟩
 replace hz := hz.below hb5 hz.lt
 replace hw_ := hw_.below hb5 hw_.lt
 have h5 := hb5.size
 replace hB := bstep hB hB.size hb5
 clear hb5 hx hy hs0
 have HV := Lib.hid (show putS s (⟨12, v, r, t, seen, tr, sp, ag, re⟩ : Hd) = makeS s (⟨12, v, r, t, seen, tr, sp, ag, re⟩ : Hd) from rfl)
 generalize hq5 : makeS s (⟨12, v, r, t, seen, tr, sp, ag, re⟩ : Hd) = q at *
 clear hq5
 unfold stV hdV
 have kz := hz.cell
 have fz := hz.frozen
 have kw := hw_.cell
 have fw := hw_.frozen
 go_wp2
 refine bodyPost_ret (v := .tuple #[stV q.1 A5 n5 c5, hdV q.2.1, q.2.2]) (by simp [results, Tryz.results91, go_sem, kz, kw, stV, hdV]) rfl ⟨A5, n5, c5, by rw [HV.out], ?_, ?_⟩
 ·
  rw [HV.out]
  exact (RgsW.setsT (RgsW.setsT hG5 hz (by decide) (by decide) (aS q.1 A5 n5 c5) 0) (BoxAt.sets_ne (aS q.1 A5 n5 c5) 0 hw_ (by omega)) (by decide) (by decide) (aH q.2.1) 0).mono (Nat.le_refl _) (by simp)
 · exact Below.setCells (by omega) (aH q.2.1) 0 (Below.setCells (by omega) (aS q.1 A5 n5 c5) 0 hB)

theorem l6Put_any (s : St) (A : Option Addr) (n cap lo hi : Nat) (h : Hd) (w : World) (hs : RgsW lo hi w A n cap s.rs) (hh : hi ≤ w.heap.size) (hlo : lo ≤ w.heap.size) (hok : stOk s = true) (hrb : ringB s h.r = true) (hho : h.ok = true) (hp : putB h.at_ = true) :
  Calls Tryz.prog 91 #[stV s A n cap, hdV h] w (RetSHB lo (putS s h) w) := by
 obtain ⟨ht, htr⟩ := hd_nums hho
 obtain ⟨a, v, r, t, seen, tr, sp, ag, re⟩ := h
 dsimp only at hrb hp ht htr
 have hc : a = 1 ∨ a = 2 ∨ a = 3 ∨ a = 4 ∨ a = 5 ∨ a = 6 ∨ a = 7 ∨ a = 8 ∨ a = 9 ∨ a = 10 ∨ a = 11 ∨ a = 12 := by
  simp only [putB, inB, Bool.and_eq_true, decide_eq_true_eq] at hp
  omega
 clear hp hho
 rcases hc with rfl | rfl | rfl | rfl | rfl | rfl | rfl | rfl | rfl | rfl | rfl | rfl
 · exact l6Put_1 s A n cap lo hi v r t seen tr sp ag re w hs hh hlo hok hrb
 · exact l6Put_2 s A n cap lo hi v r t seen tr sp ag re w hs hh hlo hok hrb
 · exact l6Put_3 s A n cap lo hi v r t seen tr sp ag re w hs hh hlo hok hrb
 · exact l6Put_4 s A n cap lo hi v r t seen tr sp ag re w hs hh hlo hok hrb
 · exact l6Put_5 s A n cap lo hi v r t seen tr sp ag re w hs hh hlo hok hrb ht
 · exact l6Put_6 s A n cap lo hi v r t seen tr sp ag re w hs hh hlo hok hrb
 · exact l6Put_7 s A n cap lo hi v r t seen tr sp ag re w hs hh hlo hok hrb ht
 · exact l6Put_8 s A n cap lo hi v r t seen tr sp ag re w hs hh hlo hok hrb ht htr
 · exact l6Put_9 s A n cap lo hi v r t seen tr sp ag re w hs hh hlo hok hrb
 · exact l6Put_10 s A n cap lo hi v r t seen tr sp ag re w hs hh hlo hok hrb
 · exact l6Put_11 s A n cap lo hi v r t seen tr sp ag re w hs hh hlo hok hrb
 · exact l6Put_12 s A n cap lo hi v r t seen tr sp ag re w hs hh hlo hok hrb

end Go.Proofs.YtplgabogdeeohaaGreat
