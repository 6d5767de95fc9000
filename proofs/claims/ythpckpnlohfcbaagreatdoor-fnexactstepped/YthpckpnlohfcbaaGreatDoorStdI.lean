/-
 The walk of the program's Stepped.
-/
import Derived.Test.YthpckpnlohfcbaaGreatDoorPsG
import Derived.Test.YthpckpnlohfcbaaGreatDoorTkC
import Derived.Test.YthpckpnlohfcbaaGreatDoorStep
namespace Go.Proofs.YthpckpnlohfcbaaGreatDoor
set_option linter.unusedSimpArgs false
set_option linter.unusedVariables false
open Go.RowKit
set_option linter.unusedVariables false
attribute [local go_sem] OpUpon
attribute [local go_sem ↓] Go.wp_at_zero Go.wp_at_succ
theorem zstdI0 {p : Prop} (h : p := by
 clear hq5
 unfold stV hdV
 have kz := hz.cell
 have fz := hz.frozen
 have kw := hw_.cell
 have fw := hw_.frozen
 go_wp2
 refine bodyPost_ret (v := .tuple #[stV q.1 A5 n5 c5, hdV q.2.1, q.2.2]) (by simp [results, Tryz.results28, go_sem, kz, kw, stV, hdV]) rfl ⟨A5, n5, c5, by rw [HV.out], ?_, ?_⟩
 · rw [HV.out]; exact (RgsD.setsT (RgsD.setsT hG hz (by decide) (by decide) (aS q.1 A5 n5 c5) 0) (BoxAt.sets_ne (aS q.1 A5 n5 c5) 0 hw_ (by omega)) (by decide) (by decide) (aH q.2.1) 0).mono l0 (by simp)
 · exact Below.setCells (by omega) (aH q.2.1) 0 (Below.setCells (by omega) (aS q.1 A5 n5 c5) 0 hB)) : p := h -- bcb812cf

def SntS (B : Nat) (a0 a1 a2 a3 a4 a5 a6 : Addr) (w : World) : Prop := Snt B a0 a1 a2 a3 a4 a5 w ∧ SntT B a0 a1 a2 a3 a4 a6 w
theorem SntS.below {B : Nat} {a0 a1 a2 a3 a4 a5 a6 : Addr} {w w' : World} (h : SntS B a0 a1 a2 a3 a4 a5 a6 w) (hb : Below w.heap.size w w') : SntS B a0 a1 a2 a3 a4 a5 a6 w' := ⟨h.1.below hb, h.2.below hb⟩
set_option maxRecDepth 100000 in
set_option maxHeartbeats 4000000 in
theorem idone_any (s : St) (A : Option Addr) (n cap lo hi B : Nat) (a0 a1 a2 a3 a4 a5 a6 : Addr) (h : Hd) (w : World) (hs : RgsW lo hi w A n cap s.rs) (hh : hi ≤ w.heap.size) (hm : n ≤ 1048576) (hpn : ∀ r ∈ s.rs, r.ps.length ≤ 1048576) (hE : SntS B a0 a1 a2 a3 a4 a5 a6 w) :
  Calls Tryz.prog 28 #[.agg #[h.at_, h.v, h.r, h.t, h.seen.s, h.seen.n, h.seen.f, h.seen.v, h.tr, h.sp, h.ag, h.re, s.rd, s.mo, .slice A n cap, s.fi, s.la]] w (RetSHBD (stepped s h) w) := by
 have HPN := Lib.hid hpn; clear hpn
 have HE := Lib.hid hE; clear hE
 obtain ⟨at_, v, r, t, seen, tr, sp, ag, re⟩ := h
 dsimp only
 go_enter Tryz.func28, Tryz.ntmps28
 go_upto_region 1 with fail
 refine wp_abs (fun W => Below w.heap.size w W ∧ BoxAt W w.heap.size #[at_, v, r, t, seen.s, seen.n, seen.f, seen.v, tr, sp, ag, re, s.rd, s.mo, .slice A n cap, s.fi, s.la] 58 ∧ BoxAt W (w.heap.size + 1) zS 32 ∧ BoxAt W (w.heap.size + 1 + 1) zH 35) ⟨(((Below.refl _ _).alloc (Nat.le_refl _) _).alloc (by simp) _).alloc (by simp; omega) _, ((BoxAt.new _ _ _).alloc _).alloc _, (BoxAt.new' (by simp)).alloc _, BoxAt.new' (by simp)⟩ ?_
 rintro W0 ⟨hB, hx, hz, hw_⟩
 have lw0 := hw_.lt
 have kx := hx.cell
 go_wp2_with fail
 clear kx
 have hi_ := iis_any (⟨at_, v, r, t, seen, tr, sp, ag, re⟩ : Hd) 2
 rw [← putting_eq] at hi_
 unfold hdV at hi_
 dsimp only at hi_
 refine (hi_ _).mono ?_
 rintro e w1 ⟨rfl, hb⟩
 replace hx := hx.below hb hx.lt
 replace hz := hz.below hb hz.lt
 replace hw_ := hw_.below hb hw_.lt
 replace hB := bstep hB hB.size hb
 have h1 := hb.size
 clear hb
 clear hi_
 cases hp : isPutting (⟨at_, v, r, t, seen, tr, sp, ag, re⟩ : Hd)
 ·
  have HV := Lib.hid (show stepped s (⟨at_, v, r, t, seen, tr, sp, ag, re⟩ : Hd) = stepS takeS lateB s (⟨at_, v, r, t, seen, tr, sp, ag, re⟩ : Hd) by simp [stepped, hp])
  clear hp
  have kx := hx.cell
  go_wp2_with fail
  clear kx
  refine (itakeStep_any s A n cap lo hi B a0 a1 a2 a3 a4 a6 (⟨at_, v, r, t, seen, tr, sp, ag, re⟩ : Hd) _ (hs.below hB hh) (Nat.le_trans hh hB.size) hm HPN.out (HE.out.2.below hB)).mono ?_
  rintro e w2 ⟨A5, n5, c5, rfl, hG, hb5⟩
  replace hz := hz.below hb5 hz.lt
  replace hw_ := hw_.below hb5 hw_.lt
  have h5 := hb5.size
  have l0 := hB.size
  replace hB := bstep hB hB.size hb5
  clear hb5 hx
  generalize hq5 : stepS takeS lateB s (⟨at_, v, r, t, seen, tr, sp, ag, re⟩ : Hd) = q at *
  exact zstdI0
 ·
  have HV := Lib.hid (show stepped s (⟨at_, v, r, t, seen, tr, sp, ag, re⟩ : Hd) = stepS putS putB s (⟨at_, v, r, t, seen, tr, sp, ag, re⟩ : Hd) by simp [stepped, hp])
  clear hp
  have kx := hx.cell
  go_wp2_with fail
  clear kx
  refine (iputStep_any s A n cap lo hi B a0 a1 a2 a3 a4 a5 (⟨at_, v, r, t, seen, tr, sp, ag, re⟩ : Hd) _ (hs.below hB hh) (Nat.le_trans hh hB.size) hm HPN.out (HE.out.1.below hB)).mono ?_
  rintro e w2 ⟨A5, n5, c5, rfl, hG, hb5⟩
  replace hz := hz.below hb5 hz.lt
  replace hw_ := hw_.below hb5 hw_.lt
  have h5 := hb5.size
  have l0 := hB.size
  replace hB := bstep hB hB.size hb5
  clear hb5 hx
  generalize hq5 : stepS putS putB s (⟨at_, v, r, t, seen, tr, sp, ag, re⟩ : Hd) = q at *
  exact zstdI0
set_option maxRecDepth 100000 in
set_option maxHeartbeats 4000000 in
theorem istepped_any (s : St) (A : Option Addr) (n cap lo hi B : Nat) (a0 a1 a2 a3 a4 a5 a6 : Addr) (h : Hd) (w : World) (hs : RgsW lo hi w A n cap s.rs) (hh : hi ≤ w.heap.size) (hm : n ≤ 1048576) (hpn : ∀ r ∈ s.rs, r.ps.length ≤ 1048576) (hE : SntS B a0 a1 a2 a3 a4 a5 a6 w) :
  Calls Tryz.prog 11 #[stV s A n cap, hdV h] w (RetSHBD (stepped s h) w) := by
 have HQ := Lib.hid (fun (W : World) (hBW : Below w.heap.size w W) => idone_any s A n cap lo hi B a0 a1 a2 a3 a4 a5 a6 h W (hs.below hBW hh) (Nat.le_trans hh hBW.size) hm hpn (hE.below hBW))
 generalize stepped s h = q at *
 clear hE hpn
 obtain ⟨at_, v, r, t, seen, tr, sp, ag, re⟩ := h
 dsimp only at HQ
 unfold stV hdV
 dsimp only
 go_enter Tryz.func11, Tryz.ntmps11
 go_upto_region 1 with fail
 refine wp_abs (fun W => Below w.heap.size w W ∧ BoxAt W w.heap.size (aS s A n cap) 32 ∧ BoxAt W (w.heap.size + 1) (dH at_ v r t seen tr sp ag re) 35 ∧ BoxAt W (w.heap.size + 1 + 1) zS 32 ∧ BoxAt W (w.heap.size + 1 + 1 + 1) zH 35) ⟨(((((Below.refl _ _).alloc (Nat.le_refl _) _).alloc (by simp) _).alloc (by simp; omega) _).alloc (by simp; omega) _), (((BoxAt.new _ _ _).alloc _).alloc _).alloc _, ((BoxAt.new' (by simp)).alloc _).alloc _, (BoxAt.new' (by simp)).alloc _, BoxAt.new' (by simp)⟩ ?_
 rintro W0 ⟨hB, hx, hy, hz, hw_⟩
 have lw0 := hw_.lt
 have hs0 := hs.below hB hh
 have kx := hx.cell
 have ky := hy.cell
 have fy := hy.frozen
 go_wp2_with fail
 clear kx ky fy hs0
 refine (HQ.out _ hB).mono ?_
 rintro e w1 ⟨A5, n5, c5, rfl, hG, hb⟩
 replace hz := hz.below hb hz.lt
 replace hw_ := hw_.below hb hw_.lt
 have l1 := hb.size
 have l0 := hB.size
 replace hB := bstep hB hB.size hb
 clear hb
 unfold stV hdV
 have kz := hz.cell
 have fz := hz.frozen
 have kw := hw_.cell
 have fw := hw_.frozen
 go_wp2
 refine bodyPost_ret (v := .tuple #[stV q.1 A5 n5 c5, hdV q.2.1, q.2.2]) (by simp [results, Tryz.results11, go_sem, kz, kw, stV, hdV]) rfl ⟨A5, n5, c5, rfl, ?_, ?_⟩
 · exact (RgsD.setsT (RgsD.setsT hG hz (by decide) (by decide) (aS q.1 A5 n5 c5) 0) (BoxAt.sets_ne (aS q.1 A5 n5 c5) 0 hw_ (by omega)) (by decide) (by decide) (aH q.2.1) 0).mono l0 (by simp)
 · exact Below.setCells (by omega) (aH q.2.1) 0 (Below.setCells (by omega) (aS q.1 A5 n5 c5) 0 hB)
end Go.Proofs.YthpckpnlohfcbaaGreatDoor
