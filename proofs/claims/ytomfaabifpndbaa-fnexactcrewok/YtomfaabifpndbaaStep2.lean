/-
  A step of whoever it is, and whether a hand fits, of the model.
-/
import Derived.Test.YtomfaabifpndbaaStep
import Derived.Test.YtomfaabifpndbaaFitS
namespace Go.Proofs.Ytomfaabifpndbaa
set_option linter.unusedSimpArgs false
set_option linter.unusedVariables false
open Go.RowKit
set_option linter.unusedVariables false
attribute [local go_sem] OpUpon
attribute [local go_sem ↓] Go.wp_at_zero Go.wp_at_succ

def stepped (s : St) (h : Hd) : St × Hd × Bool := if isPutting h then stepS putS putB s h else stepS takeS lateB s h

set_option maxRecDepth 100000 in
set_option maxHeartbeats 4000000 in
theorem sstepped_any (s : St) (A : Option Addr) (n cap lo hi : Nat) (h : Hd) (w : World) (hs : RgsW lo hi w A n cap s.rs) (hh : hi ≤ w.heap.size) (hm : n ≤ 1048576) (hpn : ∀ r ∈ s.rs, r.ps.length ≤ 1048576) :
    Calls Try.prog 121 #[stV s A n cap, hdV h] w (RetSHB w.heap.size (stepped s h) w) := by
  have HPN := Lib.hid hpn; clear hpn
  have HLN := Lib.hid hs.1
  obtain ⟨at_, v, r, t, seen, tr, sp, ag, re⟩ := h
  unfold stV hdV
  dsimp only
  go_enter Try.func121, Try.ntmps121
  go_upto_region 1 with fail
  refine wp_abs (fun W => Below w.heap.size w W ∧ BoxAt W w.heap.size #[.int .i64 s.rd, .int .i64 s.mo, .slice A n cap, .int .i64 s.fi, .int .i64 s.la] 49 ∧ BoxAt W (w.heap.size + 1) #[.int .i64 at_, .int .i64 v, .int .i64 r, .int .i64 t, .bool seen.s, .int .i64 seen.n, .bool seen.f, .int .i64 seen.v, .int .i64 tr, .int .i64 sp, .bool ag, .int .i64 re] 27 ∧ BoxAt W (w.heap.size + 1 + 1) #[.int .i64 0, .int .i64 0, .slice none 0 0, .int .i64 0, .int .i64 0] 49 ∧ BoxAt W (w.heap.size + 1 + 1 + 1) #[.int .i64 0, .int .i64 0, .int .i64 0, .int .i64 0, .bool false, .int .i64 0, .bool false, .int .i64 0, .int .i64 0, .int .i64 0, .bool false, .int .i64 0] 27) ⟨(((((Below.refl _ _).alloc (Nat.le_refl _) _).alloc (by simp) _).alloc (by simp; omega) _).alloc (by simp; omega) _), (((BoxAt.new _ _ _).alloc _).alloc _).alloc _, ((BoxAt.new' (by simp)).alloc _).alloc _, (BoxAt.new' (by simp)).alloc _, BoxAt.new' (by simp)⟩ ?_
  rintro W0 ⟨hB, hx, hy, hz, hw_⟩
  have lw0 := hw_.lt
  have hs0 := hs.below hB hh
  have kx := hx.cell
  have ky := hy.cell
  have fy := hy.frozen
  go_wp2_with fail
  clear kx ky fy hs0
  refine (sisPutting_any (⟨at_, v, r, t, seen, tr, sp, ag, re⟩ : Hd) _).mono ?_
  rintro e w1 ⟨rfl, hb⟩
  replace hz := hz.below hb hz.lt
  replace hw_ := hw_.below hb hw_.lt
  replace hx := hx.below hb hx.lt
  replace hy := hy.below hb hy.lt
  replace hB := bstep hB hB.size hb
  have h1 := hb.size
  clear hb
  cases hp : isPutting (⟨at_, v, r, t, seen, tr, sp, ag, re⟩ : Hd)
  · have HV := Lib.hid (show stepped s (⟨at_, v, r, t, seen, tr, sp, ag, re⟩ : Hd) = stepS takeS lateB s (⟨at_, v, r, t, seen, tr, sp, ag, re⟩ : Hd) by simp [stepped, hp])
    clear hp
    have kx := hx.cell
    have ky := hy.cell
    go_wp2_with fail
    clear kx ky
    refine (stakeStep_any s A n cap lo hi (⟨at_, v, r, t, seen, tr, sp, ag, re⟩ : Hd) _ (hs.below hB hh) (Nat.le_trans hh hB.size) hm HPN.out).mono ?_
    rintro e w2 ⟨A5, n5, c5, rfl, hG5, hb5⟩
    replace hz := hz.below hb5 hz.lt
    replace hw_ := hw_.below hb5 hw_.lt
    have h5 := hb5.size
    have h6 := hB.size
    replace hB := bstep hB hB.size hb5
    clear hb5 hx hy
    generalize hq5 : stepS takeS lateB s (⟨at_, v, r, t, seen, tr, sp, ag, re⟩ : Hd) = q at *
    clear hq5
    unfold stV hdV
    have kz := hz.cell
    have fz := hz.frozen
    have kw := hw_.cell
    have fw := hw_.frozen
    go_wp2
    refine bodyPost_ret (v := .tuple #[stV q.1 A5 n5 c5, hdV q.2.1, .bool q.2.2]) (by simp [results, Try.results121, go_sem, kz, kw, stV, hdV]) rfl ⟨A5, n5, c5, by rw [HV.out], ?_, ?_⟩
    · rw [HV.out]
      exact (RgsW.setsT (RgsW.setsT hG5 hz (by decide) (by decide) [.int .i64 q.1.rd, .int .i64 q.1.mo, .slice A5 n5 c5, .int .i64 q.1.fi, .int .i64 q.1.la] 0) (BoxAt.sets_ne [.int .i64 q.1.rd, .int .i64 q.1.mo, .slice A5 n5 c5, .int .i64 q.1.fi, .int .i64 q.1.la] 0 hw_ (by omega)) (by decide) (by decide) [.int .i64 q.2.1.at_, .int .i64 q.2.1.v, .int .i64 q.2.1.r, .int .i64 q.2.1.t, .bool q.2.1.seen.s, .int .i64 q.2.1.seen.n, .bool q.2.1.seen.f, .int .i64 q.2.1.seen.v, .int .i64 q.2.1.tr, .int .i64 q.2.1.sp, .bool q.2.1.ag, .int .i64 q.2.1.re] 0).mono (by omega) (by simp)
    · exact Below.setCells (by omega) [.int .i64 q.2.1.at_, .int .i64 q.2.1.v, .int .i64 q.2.1.r, .int .i64 q.2.1.t, .bool q.2.1.seen.s, .int .i64 q.2.1.seen.n, .bool q.2.1.seen.f, .int .i64 q.2.1.seen.v, .int .i64 q.2.1.tr, .int .i64 q.2.1.sp, .bool q.2.1.ag, .int .i64 q.2.1.re] 0 (Below.setCells (by omega) [.int .i64 q.1.rd, .int .i64 q.1.mo, .slice A5 n5 c5, .int .i64 q.1.fi, .int .i64 q.1.la] 0 hB)
  · have HV := Lib.hid (show stepped s (⟨at_, v, r, t, seen, tr, sp, ag, re⟩ : Hd) = stepS putS putB s (⟨at_, v, r, t, seen, tr, sp, ag, re⟩ : Hd) by simp [stepped, hp])
    clear hp
    have kx := hx.cell
    have ky := hy.cell
    go_wp2_with fail
    clear kx ky
    refine (sputStep_any s A n cap lo hi (⟨at_, v, r, t, seen, tr, sp, ag, re⟩ : Hd) _ (hs.below hB hh) (Nat.le_trans hh hB.size) hm HPN.out).mono ?_
    rintro e w2 ⟨A5, n5, c5, rfl, hG5, hb5⟩
    replace hz := hz.below hb5 hz.lt
    replace hw_ := hw_.below hb5 hw_.lt
    have h5 := hb5.size
    have h6 := hB.size
    replace hB := bstep hB hB.size hb5
    clear hb5 hx hy
    generalize hq5 : stepS putS putB s (⟨at_, v, r, t, seen, tr, sp, ag, re⟩ : Hd) = q at *
    clear hq5
    unfold stV hdV
    have kz := hz.cell
    have fz := hz.frozen
    have kw := hw_.cell
    have fw := hw_.frozen
    go_wp2
    refine bodyPost_ret (v := .tuple #[stV q.1 A5 n5 c5, hdV q.2.1, .bool q.2.2]) (by simp [results, Try.results121, go_sem, kz, kw, stV, hdV]) rfl ⟨A5, n5, c5, by rw [HV.out], ?_, ?_⟩
    · rw [HV.out]
      exact (RgsW.setsT (RgsW.setsT hG5 hz (by decide) (by decide) [.int .i64 q.1.rd, .int .i64 q.1.mo, .slice A5 n5 c5, .int .i64 q.1.fi, .int .i64 q.1.la] 0) (BoxAt.sets_ne [.int .i64 q.1.rd, .int .i64 q.1.mo, .slice A5 n5 c5, .int .i64 q.1.fi, .int .i64 q.1.la] 0 hw_ (by omega)) (by decide) (by decide) [.int .i64 q.2.1.at_, .int .i64 q.2.1.v, .int .i64 q.2.1.r, .int .i64 q.2.1.t, .bool q.2.1.seen.s, .int .i64 q.2.1.seen.n, .bool q.2.1.seen.f, .int .i64 q.2.1.seen.v, .int .i64 q.2.1.tr, .int .i64 q.2.1.sp, .bool q.2.1.ag, .int .i64 q.2.1.re] 0).mono (by omega) (by simp)
    · exact Below.setCells (by omega) [.int .i64 q.2.1.at_, .int .i64 q.2.1.v, .int .i64 q.2.1.r, .int .i64 q.2.1.t, .bool q.2.1.seen.s, .int .i64 q.2.1.seen.n, .bool q.2.1.seen.f, .int .i64 q.2.1.seen.v, .int .i64 q.2.1.tr, .int .i64 q.2.1.sp, .bool q.2.1.ag, .int .i64 q.2.1.re] 0 (Below.setCells (by omega) [.int .i64 q.1.rd, .int .i64 q.1.mo, .slice A5 n5 c5, .int .i64 q.1.fi, .int .i64 q.1.la] 0 hB)

end Go.Proofs.Ytomfaabifpndbaa
