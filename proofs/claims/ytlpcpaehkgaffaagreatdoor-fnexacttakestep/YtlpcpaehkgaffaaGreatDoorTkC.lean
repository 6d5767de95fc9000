/-
  The program's TakeStep, whole.
-/
import Derived.Test.YtlpcpaehkgaffaaGreatDoorTkA
import Derived.Test.YtlpcpaehkgaffaaGreatDoorStepT
import Derived.Test.YtlpcpaehkgaffaaGreatDoorOneS
namespace Go.Proofs.YtlpcpaehkgaffaaGreatDoor
set_option linter.unusedSimpArgs false
set_option linter.unusedVariables false
open Go.RowKit
set_option linter.unusedVariables false
attribute [local go_sem] OpUpon
attribute [local go_sem ↓] Go.wp_at_zero Go.wp_at_succ


set_option maxRecDepth 100000 in
set_option maxHeartbeats 4000000 in
theorem itakeOn_any (s : St) (A : Option Addr) (n cap lo hi B : Nat) (a0 a1 a2 a3 a4 a5 : Addr) (h : Hd) (w : World) (hs : RgsW lo hi w A n cap s.rs) (hh : hi ≤ w.heap.size) (hok : stOk s = true) (hrb : ringB s h.r = true) (hE : SntT B a0 a1 a2 a3 a4 a5 w) (hho : h.ok = true) (hp : takeB h.at_ = true) :
    Calls Tryz.prog 34 #[stV s A n cap, hdV h] w (RetSH (PH (takeS s h)) w) := by
  have ht := (hd_nums hho).1
  clear hho
  have hp' : 13 ≤ h.at_ ∧ h.at_ ≤ 24 := by simpa [takeB, inB] using hp
  obtain ⟨at_, v, r, t, seen, tr, sp, ag, re⟩ := h
  dsimp only at hrb ht hp'
  have HON := Lib.hid (fun (h19 : 19 ≤ at_) (W : World) (hBW : Below w.heap.size w W) => ion_any s A n cap lo hi B a0 a1 a2 a3 a4 a5 at_ v r t seen tr sp ag re W (hs.below hBW hh) (Nat.le_trans hh hBW.size) hok hrb (hE.below hBW) ht ⟨h19, hp'.2⟩)
  have HGO := Lib.hid (fun (h19 : ¬ 19 ≤ at_) (W : World) (hBW : Below w.heap.size w W) => igo_any s A n cap lo hi B a0 a1 a2 a3 a4 a5 at_ v r t seen tr sp ag re W (hs.below hBW hh) (Nat.le_trans hh hBW.size) hok hrb (hE.below hBW) ht ⟨hp'.1, by omega⟩)
  generalize PH (takeS s (⟨at_, v, r, t, seen, tr, sp, ag, re⟩ : Hd)) = q at *
  unfold stV hdV at HON HGO
  clear hE hok hrb hp hp'
  unfold stV hdV
  dsimp only at HON HGO ⊢
  go_enter Tryz.func34, Tryz.ntmps34
  go_upto_region 1 with fail
  refine wp_abs (fun W => Below w.heap.size w W ∧ BoxAt W w.heap.size #[.int .i64 s.rd, .int .i64 s.mo, .slice A n cap, .int .i64 s.fi, .int .i64 s.la] 32 ∧ BoxAt W (w.heap.size + 1) #[.int .i64 at_, .int .i64 v, .int .i64 r, .int .i64 t, .bool seen.s, .int .i64 seen.n, .bool seen.f, .int .i64 seen.v, .int .i64 tr, .int .i64 sp, .bool ag, .int .i64 re] 35 ∧ BoxAt W (w.heap.size + 1 + 1) #[.int .i64 0, .int .i64 0, .slice none 0 0, .int .i64 0, .int .i64 0] 32 ∧ BoxAt W (w.heap.size + 1 + 1 + 1) #[.int .i64 0, .int .i64 0, .int .i64 0, .int .i64 0, .bool false, .int .i64 0, .bool false, .int .i64 0, .int .i64 0, .int .i64 0, .bool false, .int .i64 0] 35) ⟨(((((Below.refl _ _).alloc (Nat.le_refl _) _).alloc (by simp) _).alloc (by simp; omega) _).alloc (by simp; omega) _), (((BoxAt.new _ _ _).alloc _).alloc _).alloc _, ((BoxAt.new' (by simp)).alloc _).alloc _, (BoxAt.new' (by simp)).alloc _, BoxAt.new' (by simp)⟩ ?_
  rintro W0 ⟨hB, hx, hy, hz, hw_⟩
  have lw0 := hw_.lt
  have hs0 := hs.below hB hh
  have kx := hx.cell
  have ky := hy.cell
  have fy := hy.frozen
  by_cases h19 : 19 ≤ at_
  · go_wp2_with fail
    clear kx ky fy hs0
    refine (HON.out h19 _ hB).mono ?_
    rintro e w1 ⟨A5, n5, c5, rfl, hG, hb⟩
    replace hz := hz.below hb hz.lt
    replace hw_ := hw_.below hb hw_.lt
    replace hB := bstep hB hB.size hb
    clear hb
    unfold stV hdV
    have kz := hz.cell
    have fz := hz.frozen
    have kw := hw_.cell
    have fw := hw_.frozen
    go_wp2
    refine bodyPost_ret (v := .tuple #[stV q.1 A5 n5 c5, hdV q.2]) (by simp [results, Tryz.results34, go_sem, kz, kw, stV, hdV]) rfl ⟨A5, n5, c5, rfl, ?_, ?_⟩
    · exact (RgsW.setsT (RgsW.setsT hG hz (by decide) (by decide) [.int .i64 q.1.rd, .int .i64 q.1.mo, .slice A5 n5 c5, .int .i64 q.1.fi, .int .i64 q.1.la] 0) (BoxAt.sets_ne [.int .i64 q.1.rd, .int .i64 q.1.mo, .slice A5 n5 c5, .int .i64 q.1.fi, .int .i64 q.1.la] 0 hw_ (by omega)) (by decide) (by decide) [.int .i64 q.2.at_, .int .i64 q.2.v, .int .i64 q.2.r, .int .i64 q.2.t, .bool q.2.seen.s, .int .i64 q.2.seen.n, .bool q.2.seen.f, .int .i64 q.2.seen.v, .int .i64 q.2.tr, .int .i64 q.2.sp, .bool q.2.ag, .int .i64 q.2.re] 0).mono (Nat.le_refl _) (by simp)
    · exact Below.setCells (by omega) [.int .i64 q.2.at_, .int .i64 q.2.v, .int .i64 q.2.r, .int .i64 q.2.t, .bool q.2.seen.s, .int .i64 q.2.seen.n, .bool q.2.seen.f, .int .i64 q.2.seen.v, .int .i64 q.2.tr, .int .i64 q.2.sp, .bool q.2.ag, .int .i64 q.2.re] 0 (Below.setCells (by omega) [.int .i64 q.1.rd, .int .i64 q.1.mo, .slice A5 n5 c5, .int .i64 q.1.fi, .int .i64 q.1.la] 0 hB)
  · go_wp2_with fail
    clear kx ky fy hs0
    refine (HGO.out h19 _ hB).mono ?_
    rintro e w1 ⟨A5, n5, c5, rfl, hG, hb⟩
    replace hz := hz.below hb hz.lt
    replace hw_ := hw_.below hb hw_.lt
    replace hB := bstep hB hB.size hb
    clear hb
    unfold stV hdV
    have kz := hz.cell
    have fz := hz.frozen
    have kw := hw_.cell
    have fw := hw_.frozen
    go_wp2
    refine bodyPost_ret (v := .tuple #[stV q.1 A5 n5 c5, hdV q.2]) (by simp [results, Tryz.results34, go_sem, kz, kw, stV, hdV]) rfl ⟨A5, n5, c5, rfl, ?_, ?_⟩
    · exact (RgsW.setsT (RgsW.setsT hG hz (by decide) (by decide) [.int .i64 q.1.rd, .int .i64 q.1.mo, .slice A5 n5 c5, .int .i64 q.1.fi, .int .i64 q.1.la] 0) (BoxAt.sets_ne [.int .i64 q.1.rd, .int .i64 q.1.mo, .slice A5 n5 c5, .int .i64 q.1.fi, .int .i64 q.1.la] 0 hw_ (by omega)) (by decide) (by decide) [.int .i64 q.2.at_, .int .i64 q.2.v, .int .i64 q.2.r, .int .i64 q.2.t, .bool q.2.seen.s, .int .i64 q.2.seen.n, .bool q.2.seen.f, .int .i64 q.2.seen.v, .int .i64 q.2.tr, .int .i64 q.2.sp, .bool q.2.ag, .int .i64 q.2.re] 0).mono (Nat.le_refl _) (by simp)
    · exact Below.setCells (by omega) [.int .i64 q.2.at_, .int .i64 q.2.v, .int .i64 q.2.r, .int .i64 q.2.t, .bool q.2.seen.s, .int .i64 q.2.seen.n, .bool q.2.seen.f, .int .i64 q.2.seen.v, .int .i64 q.2.tr, .int .i64 q.2.sp, .bool q.2.ag, .int .i64 q.2.re] 0 (Below.setCells (by omega) [.int .i64 q.1.rd, .int .i64 q.1.mo, .slice A5 n5 c5, .int .i64 q.1.fi, .int .i64 q.1.la] 0 hB)

set_option maxRecDepth 100000 in
set_option maxHeartbeats 4000000 in
theorem imayTake_any (s : St) (A : Option Addr) (n cap : Nat) (h : Hd) (w : World) (hn : s.rs.length = n) (hm : n ≤ 1048576) :
    Calls Tryz.prog 33 #[stV s A n cap, hdV h] w (RetBelow (.bool (takeB h.at_ && ringB s h.r)) w) := by
  have HN := Lib.hid hn; clear hn
  obtain ⟨at_, v, r, t, seen, tr, sp, ag, re⟩ := h
  have hkn : (kindN at_ = 3 ∧ takeB at_ = true) ∨ (kindN at_ ≠ 3 ∧ takeB at_ = false) := by
    by_cases h1 : 13 ≤ at_ ∧ at_ ≤ 24
    · left
      refine ⟨?_, by simp [takeB, inB, h1]⟩
      unfold kindN
      rw [if_neg (by omega), if_neg (by omega), if_pos h1]
    · right
      refine ⟨?_, by simp only [takeB, inB, Bool.and_eq_false_iff, decide_eq_false_iff_not]; omega⟩
      unfold kindN
      repeat' split
      all_goals omega
  unfold stV hdV
  dsimp only
  go_enter Tryz.func33, Tryz.ntmps33
  go_upto_region 1 with fail
  refine wp_abs (fun W => Below w.heap.size w W ∧ BoxAt W w.heap.size #[.int .i64 s.rd, .int .i64 s.mo, .slice A n cap, .int .i64 s.fi, .int .i64 s.la] 32 ∧ BoxAt W (w.heap.size + 1) #[.int .i64 at_, .int .i64 v, .int .i64 r, .int .i64 t, .bool seen.s, .int .i64 seen.n, .bool seen.f, .int .i64 seen.v, .int .i64 tr, .int .i64 sp, .bool ag, .int .i64 re] 35) ⟨((Below.refl _ _).alloc (Nat.le_refl _) _).alloc (by simp) _, (BoxAt.new _ _ _).alloc _, BoxAt.new' (by simp)⟩ ?_
  rintro W ⟨hB, hx, hy⟩
  have kx := hx.cell
  have ky := hy.cell
  go_wp2_with fail
  refine (kindOf_any _ _).mono ?_
  rintro e w' ⟨rfl, rfl⟩
  generalize kindN at_ = kn at *
  rcases hkn with ⟨rfl, hk⟩ | ⟨hk0, hk⟩
  · have HK := Lib.hid hk; clear hk
    go_wp2_with fail
    clear kx ky
    refine (hasRing_any s A n cap r _ HN.out hm).mono ?_
    rintro e w1 ⟨rfl, hb⟩
    replace hB := bstep hB hB.size hb
    clear hb hx hy
    generalize ringB s r = z at *
    go_wp2
    go_ret
    exact .mk (by rw [HK.out, Bool.true_and]; rfl) hB
  · have HK := Lib.hid hk; clear hk
    go_wp2
    go_ret
    exact .mk (by rw [HK.out, Bool.false_and]; rfl) hB

theorem oneQ_take {s : St} {h : Hd} : oneQ (takeB h.at_ && ringB s h.r) (PH (takeS s h)) s h = stepS takeS lateB s h := by
  rw [stepS_late]
  unfold oneQ
  cases hok : stOk s
  · simp [stepS, hok]
  cases hho : h.ok
  · simp [stepS, hok, hho]
  cases hp : takeB h.at_
  · simp [stepS, hok, hho, hp]
  cases hr : ringB s h.r
  · simp [stepS, hok, hho, hp, hr]
  rw [stepS_take hok hho hp hr]
  rfl

set_option maxRecDepth 100000 in
set_option maxHeartbeats 4000000 in
theorem itakeStep_any (s : St) (A : Option Addr) (n cap lo hi B : Nat) (a0 a1 a2 a3 a4 a5 : Addr) (h : Hd) (w : World) (hs : RgsW lo hi w A n cap s.rs) (hh : hi ≤ w.heap.size) (hm : n ≤ 1048576) (hpn : ∀ r ∈ s.rs, r.ps.length ≤ 1048576) (hE : SntT B a0 a1 a2 a3 a4 a5 w) :
    Calls Tryz.prog 15 #[stV s A n cap, hdV h] w (RetSHBD (stepS takeS lateB s h) w) := by
  have hln := hs.1
  have HQ := Lib.hid (fun (W : World) (hBW : Below w.heap.size w W) => ione_any s A n cap lo hi h 33 34 (takeB h.at_ && ringB s h.r) (PH (takeS s h)) W (hs.below hBW hh) (Nat.le_trans hh hBW.size) hm hpn (enters_of Tryz.func33 (by kernel_rfl) rfl) (enters_of Tryz.func34 (by kernel_rfl) rfl)
    (fun _ _ W' _ => imayTake_any s A n cap h W' hln hm)
    (fun hok hho hmb => by
      simp only [Bool.and_eq_true] at hmb
      exact ⟨(takeS_ok hok hho hmb.1 hmb.2).1, fun W' hB' => itakeOn_any s A n cap lo hi B a0 a1 a2 a3 a4 a5 h W' ((hs.below hBW hh).below hB' (Nat.le_trans hh hBW.size)) (Nat.le_trans hh (Nat.le_trans hBW.size hB'.size)) hok hmb.2 ((hE.below hBW).below hB') hho hmb.1⟩))
  rw [oneQ_take] at HQ
  generalize stepS takeS lateB s h = q at *
  clear hE hpn hln
  obtain ⟨at_, v, r, t, seen, tr, sp, ag, re⟩ := h
  unfold stV hdV at HQ
  unfold stV hdV
  dsimp only at HQ ⊢
  go_enter Tryz.func15, Tryz.ntmps15
  go_upto_region 1 with fail
  refine wp_abs (fun W => Below w.heap.size w W ∧ BoxAt W w.heap.size #[.int .i64 s.rd, .int .i64 s.mo, .slice A n cap, .int .i64 s.fi, .int .i64 s.la] 32 ∧ BoxAt W (w.heap.size + 1) #[.int .i64 at_, .int .i64 v, .int .i64 r, .int .i64 t, .bool seen.s, .int .i64 seen.n, .bool seen.f, .int .i64 seen.v, .int .i64 tr, .int .i64 sp, .bool ag, .int .i64 re] 35 ∧ BoxAt W (w.heap.size + 1 + 1) #[.int .i64 0, .int .i64 0, .slice none 0 0, .int .i64 0, .int .i64 0] 32 ∧ BoxAt W (w.heap.size + 1 + 1 + 1) #[.int .i64 0, .int .i64 0, .int .i64 0, .int .i64 0, .bool false, .int .i64 0, .bool false, .int .i64 0, .int .i64 0, .int .i64 0, .bool false, .int .i64 0] 35) ⟨(((((Below.refl _ _).alloc (Nat.le_refl _) _).alloc (by simp) _).alloc (by simp; omega) _).alloc (by simp; omega) _), (((BoxAt.new _ _ _).alloc _).alloc _).alloc _, ((BoxAt.new' (by simp)).alloc _).alloc _, (BoxAt.new' (by simp)).alloc _, BoxAt.new' (by simp)⟩ ?_
  rintro W0 ⟨hB, hx, hy, hz, hw_⟩
  have lw0 := hw_.lt
  have hs0 := hs.below hB hh
  have kx := hx.cell
  have ky := hy.cell
  have fy := hy.frozen
  go_wp2_with fail
  clear kx ky fy hs0
  refine (HQ.out _ hB).mono ?_
  rintro e w1 ⟨A5, n5, c5, rfl, hG, hb⟩
  replace hz := hz.below hb hz.lt
  replace hw_ := hw_.below hb hw_.lt
  have l1 := hb.size
  have l0 := hB.size
  replace hG := hG.mono (Nat.le_refl _) (Nat.le_refl _)
  replace hB := bstep hB hB.size hb
  clear hb
  unfold stV hdV
  have kz := hz.cell
  have fz := hz.frozen
  have kw := hw_.cell
  have fw := hw_.frozen
  go_wp2
  refine bodyPost_ret (v := .tuple #[stV q.1 A5 n5 c5, hdV q.2.1, .bool q.2.2]) (by simp [results, Tryz.results15, go_sem, kz, kw, stV, hdV]) rfl ⟨A5, n5, c5, rfl, ?_, ?_⟩
  · exact (RgsD.setsT (RgsD.setsT hG hz (by decide) (by decide) [.int .i64 q.1.rd, .int .i64 q.1.mo, .slice A5 n5 c5, .int .i64 q.1.fi, .int .i64 q.1.la] 0) (BoxAt.sets_ne [.int .i64 q.1.rd, .int .i64 q.1.mo, .slice A5 n5 c5, .int .i64 q.1.fi, .int .i64 q.1.la] 0 hw_ (by omega)) (by decide) (by decide) [.int .i64 q.2.1.at_, .int .i64 q.2.1.v, .int .i64 q.2.1.r, .int .i64 q.2.1.t, .bool q.2.1.seen.s, .int .i64 q.2.1.seen.n, .bool q.2.1.seen.f, .int .i64 q.2.1.seen.v, .int .i64 q.2.1.tr, .int .i64 q.2.1.sp, .bool q.2.1.ag, .int .i64 q.2.1.re] 0).mono l0 (by simp)
  · exact Below.setCells (by omega) [.int .i64 q.2.1.at_, .int .i64 q.2.1.v, .int .i64 q.2.1.r, .int .i64 q.2.1.t, .bool q.2.1.seen.s, .int .i64 q.2.1.seen.n, .bool q.2.1.seen.f, .int .i64 q.2.1.seen.v, .int .i64 q.2.1.tr, .int .i64 q.2.1.sp, .bool q.2.1.ag, .int .i64 q.2.1.re] 0 (Below.setCells (by omega) [.int .i64 q.1.rd, .int .i64 q.1.mo, .slice A5 n5 c5, .int .i64 q.1.fi, .int .i64 q.1.la] 0 hB)

end Go.Proofs.YtlpcpaehkgaffaaGreatDoor
