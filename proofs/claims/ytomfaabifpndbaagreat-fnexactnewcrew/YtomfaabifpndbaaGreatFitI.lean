/-
  The walk of the program's Fits.
-/
import Derived.Test.YtomfaabifpndbaaGreatHanI
import Derived.Test.YtomfaabifpndbaaGreatSpaI
import Derived.Test.YtomfaabifpndbaaGreatIterE
import Derived.Test.YtomfaabifpndbaaGreatFitS
namespace Go.Proofs.YtomfaabifpndbaaGreat
set_option linter.unusedSimpArgs false
set_option linter.unusedVariables false
open Go.RowKit
set_option linter.unusedVariables false
attribute [local go_sem] OpUpon
attribute [local go_sem ↓] Go.wp_at_zero Go.wp_at_succ

set_option maxRecDepth 100000 in
set_option maxHeartbeats 4000000 in
theorem ifitsStep_any (s : St) (A : Option Addr) (n cap lo hi : Nat) (h : Hd) (w : World) (hs : RgsW lo hi w A n cap s.rs) (hh : hi ≤ w.heap.size) (hm : n ≤ 1048576) (hpn : ∀ r ∈ s.rs, r.ps.length ≤ 1048576) :
    Calls Tryz.prog 105 #[.agg #[.int .i64 h.at_, .int .i64 h.v, .int .i64 h.r, .int .i64 h.t, .bool h.seen.s, .int .i64 h.seen.n, .bool h.seen.f, .int .i64 h.seen.v, .int .i64 h.tr, .int .i64 h.sp, .bool h.ag, .int .i64 h.re, .int .i64 s.rd, .int .i64 s.mo, .slice A n cap, .int .i64 s.fi, .int .i64 s.la]] w (RetBelow (.bool (fits s h)) w) := by
  have HPN := Lib.hid hpn; clear hpn
  have HLN := Lib.hid hs.1
  obtain ⟨at_, v, r, t, seen, tr, sp, ag, re⟩ := h
  dsimp only
  go_enter Tryz.func105, Tryz.ntmps105
  go_upto_region 1 with fail
  refine wp_abs (fun W => Below w.heap.size w W ∧ BoxAt W w.heap.size #[.int .i64 at_, .int .i64 v, .int .i64 r, .int .i64 t, .bool seen.s, .int .i64 seen.n, .bool seen.f, .int .i64 seen.v, .int .i64 tr, .int .i64 sp, .bool ag, .int .i64 re, .int .i64 s.rd, .int .i64 s.mo, .slice A n cap, .int .i64 s.fi, .int .i64 s.la] 140) ⟨(Below.refl _ _).alloc (Nat.le_refl _) _, BoxAt.new _ _ _⟩ ?_
  rintro W0 ⟨hB, hx⟩
  have kx := hx.cell
  go_wp2_with fail
  clear kx
  refine (istoreOk_any s A n cap lo hi _ (hs.below hB hh) (Nat.le_trans hh hB.size) hm HPN.out).mono ?_
  rintro e w1 ⟨rfl, hb⟩
  replace hx := hx.below hb hx.lt
  replace hB := bstep hB hB.size hb
  have h1 := hb.size
  clear hb
  cases hok : stOk s
  · go_wp2
    exact bodyPost_ret (v := .bool false) (by simp [results, Tryz.results105, go_sem]) rfl ⟨by simp [fits, hok], hB⟩
  have HOK := Lib.hid hok; clear hok
  have kx := hx.cell
  go_wp2_with fail
  clear kx
  refine (ihandOk_any (⟨at_, v, r, t, seen, tr, sp, ag, re⟩ : Hd) _).mono ?_
  rintro e w2 ⟨rfl, hb⟩
  replace hx := hx.below hb hx.lt
  replace hB := bstep hB hB.size hb
  have h2 := hb.size
  clear hb
  cases hho : (⟨at_, v, r, t, seen, tr, sp, ag, re⟩ : Hd).ok
  · go_wp2
    exact bodyPost_ret (v := .bool false) (by simp [results, Tryz.results105, go_sem]) rfl ⟨by simp [fits, hho], hB⟩
  have HHO := Lib.hid hho
  have kx := hx.cell
  go_wp2_with fail
  clear kx
  have hre : ((⟨at_, v, r, t, seen, tr, sp, ag, re⟩ : Hd).ok && (kindN at_ == 1)) = decide (at_ = 0) := by
    have := resting_eq (⟨at_, v, r, t, seen, tr, sp, ag, re⟩ : Hd)
    rw [← this, isResting, hho]; rfl
  have hi := iis_any (⟨at_, v, r, t, seen, tr, sp, ag, re⟩ : Hd) 1
  dsimp only at hi
  rw [hre] at hi
  clear hho hre
  refine (hi _).mono ?_
  rintro e w3 ⟨rfl, hb⟩
  replace hx := hx.below hb hx.lt
  replace hB := bstep hB hB.size hb
  have h3 := hb.size
  clear hb
  clear hi
  have kx := hx.cell
  by_cases h0 : at_ = 0
  · simp only [h0, decide_true]
    go_wp2
    exact bodyPost_ret (v := .bool true) (by simp [results, Tryz.results105, go_sem]) rfl ⟨by simp only [fits, HOK.out, HHO.out]; simp [h0], hB⟩
  have HZ0 := Lib.hid h0
  simp only [h0, decide_false]
  go_wp2_with fail
  clear kx
  refine (hasRing_any s A n cap r _ HLN.out hm).mono ?_
  rintro e w4 ⟨rfl, hb⟩
  replace hx := hx.below hb hx.lt
  replace hB := bstep hB hB.size hb
  have h4 := hb.size
  clear hb
  have kx := hx.cell
  cases hrb : ringB s r
  · go_wp2
    exact bodyPost_ret (v := .bool false) (by simp [results, Tryz.results105, go_sem]) rfl ⟨by simp only [fits, hrb]; rw [decide_eq_false HZ0.out]; simp, hB⟩
  have HRB := Lib.hid hrb; clear hrb
  go_wp2_with fail
  clear kx
  refine (ispare_any s A n cap (⟨at_, v, r, t, seen, tr, sp, ag, re⟩ : Hd) _ HLN.out hm).mono ?_
  rintro e w5 ⟨rfl, hb⟩
  replace hx := hx.below hb hx.lt
  replace hB := bstep hB hB.size hb
  have h5 := hb.size
  clear hb
  have HV := Lib.hid (show (decide (sp = -1) || ringB s sp) = fits s (⟨at_, v, r, t, seen, tr, sp, ag, re⟩ : Hd) by
    simp only [fits, HOK.out, HHO.out, HRB.out]
    rw [decide_eq_false HZ0.out]
    have hsp : -1 ≤ sp := by
      have := HHO.out
      simp only [Hd.ok, Hd.okC, inB, Bool.and_eq_true, decide_eq_true_eq] at this
      omega
    simp only [ringB, inB, Bool.true_and, Bool.false_or]
    rw [Bool.eq_iff_iff]
    simp only [Bool.or_eq_true, Bool.and_eq_true, decide_eq_true_eq]
    omega)
  dsimp only
  generalize (decide (sp = -1) || ringB s sp) = z at *
  go_wp2
  exact bodyPost_ret (v := .bool z) (by simp [results, Tryz.results105, go_sem]) rfl ⟨by rw [HV.out], hB⟩

set_option maxRecDepth 100000 in
set_option maxHeartbeats 4000000 in
theorem ifits_any (s : St) (A : Option Addr) (n cap lo hi : Nat) (h : Hd) (w : World) (hs : RgsW lo hi w A n cap s.rs) (hh : hi ≤ w.heap.size) (hm : n ≤ 1048576) (hpn : ∀ r ∈ s.rs, r.ps.length ≤ 1048576) :
    Calls Tryz.prog 88 #[stV s A n cap, hdV h] w (RetBelow (.bool (fits s h)) w) := by
  have HQ := Lib.hid (fun (W : World) (hB : Below w.heap.size w W) => ifitsStep_any s A n cap lo hi h W (hs.below hB hh) (Nat.le_trans hh hB.size) hm hpn)
  clear hs hpn
  generalize fits s h = z at *
  obtain ⟨at_, v, r, t, seen, tr, sp, ag, re⟩ := h
  unfold stV hdV
  dsimp only at HQ ⊢
  go_enter Tryz.func88, Tryz.ntmps88
  go_upto_region 1 with fail
  refine wp_abs (fun W => Below w.heap.size w W ∧ BoxAt W w.heap.size #[.int .i64 s.rd, .int .i64 s.mo, .slice A n cap, .int .i64 s.fi, .int .i64 s.la] 26 ∧ BoxAt W (w.heap.size + 1) #[.int .i64 at_, .int .i64 v, .int .i64 r, .int .i64 t, .bool seen.s, .int .i64 seen.n, .bool seen.f, .int .i64 seen.v, .int .i64 tr, .int .i64 sp, .bool ag, .int .i64 re] 58) ⟨((Below.refl _ _).alloc (Nat.le_refl _) _).alloc (by simp) _, (BoxAt.new _ _ _).alloc _, BoxAt.new' (by simp)⟩ ?_
  rintro W0 ⟨hB, hx, hy⟩
  have kx := hx.cell
  have ky := hy.cell
  go_wp2_with fail
  clear kx ky
  refine (HQ.out _ hB).mono ?_
  rintro e w1 ⟨rfl, hb⟩
  replace hB := bstep hB hB.size hb
  clear hb hx hy
  go_wp2
  go_ret
  exact .mk rfl hB

end Go.Proofs.YtomfaabifpndbaaGreat
