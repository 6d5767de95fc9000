/-
  The walk of StoreOk of the program.
-/
import Derived.Test.YtomfaabifpndbaaGreatIterD
namespace Go.Proofs.YtomfaabifpndbaaGreat
set_option linter.unusedSimpArgs false
set_option linter.unusedVariables false
open Go.RowKit
set_option linter.unusedVariables false
attribute [local go_sem ↓] Go.wp_at_zero Go.wp_at_succ

theorem ringB_pos {s : St} {z : Int} (h : ringB s z = true) : 0 < s.rs.length := by
  simp only [ringB, inB, Bool.and_eq_true, decide_eq_true_eq] at h
  omega

set_option maxRecDepth 100000 in
set_option maxHeartbeats 2000000 in
theorem istoreOk_any (s : St) (A : Option Addr) (n cap : Nat) (lo hi : Nat) (w : World) (hr : RgsW lo hi w A n cap s.rs) (hh : hi ≤ w.heap.size) (hn2 : n ≤ 1048576) (hm : ∀ r ∈ s.rs, r.ps.length ≤ 1048576) :
    Calls Tryz.prog 111 #[stV s A n cap] w (RetBelow (.bool (stOk s)) w) := by
  have HM := Lib.hid hm; clear hm
  have HN := Lib.hid hr.1
  have HV := Lib.hid (stOk_i s)
  unfold stV
  go_enter Tryz.func111, Tryz.ntmps111
  go_wp2_with fail
  refine calls_abs (fun W => Below w.heap.size w W ∧ BoxAt W w.heap.size #[.int .i64 s.rd, .int .i64 s.mo, .slice A n cap, .int .i64 s.fi, .int .i64 s.la] 26) ⟨(Below.refl _ _).alloc (Nat.le_refl _) _, BoxAt.new _ _ _⟩ ?_
  rintro W ⟨hB, hx⟩
  refine (isRound_any _ _).mono ?_
  rintro e w' ⟨rfl, rfl⟩
  have kx := hx.cell
  cases h1 : roundB s.rd
  · have HF := Lib.hid (show stOk s = false by rw [HV.out]; simp [iHead, h1])
    go_wp2
    go_ret
    exact .mk (by rw [HF.out]; rfl) hB
  go_wp2_with fail
  refine (isMost_any _ _).mono ?_
  rintro e w' ⟨rfl, rfl⟩
  cases h2 : inB s.mo 1 16
  · have HF := Lib.hid (show stOk s = false by rw [HV.out]; simp [iHead, h2])
    go_wp2
    go_ret
    exact .mk (by rw [HF.out]; rfl) hB
  by_cases h3 : (n : Int) ≤ s.mo
  rotate_left
  · have HF := Lib.hid (show stOk s = false by rw [HV.out]; simp [iHead, HN.out, h3])
    have h3' : s.mo < (n : Int) := by omega
    go_wp2
    go_ret
    exact .mk (by rw [HF.out]; rfl) hB
  go_wp2_with fail
  refine (hasRing_any s A n cap s.fi _ HN.out hn2).mono ?_
  rintro e w1 ⟨rfl, hb1⟩
  clear kx
  replace hx := hx.below hb1 hx.lt
  replace hB := bstep hB hB.size hb1
  clear hb1
  have kx := hx.cell
  cases h4 : ringB s s.fi
  · have HF := Lib.hid (show stOk s = false by rw [HV.out]; simp [iHead, h4])
    go_wp2
    go_ret
    exact .mk (by rw [HF.out]; rfl) hB
  have hpos : 0 < n := by have := ringB_pos h4; have := HN.out; omega
  go_wp2_with fail
  refine (hasRing_any s A n cap s.la _ HN.out hn2).mono ?_
  rintro e w1 ⟨rfl, hb1⟩
  clear kx
  replace hx := hx.below hb1 hx.lt
  replace hB := bstep hB hB.size hb1
  clear hb1
  have kx := hx.cell
  cases h5 : ringB s s.la
  · have HF := Lib.hid (show stOk s = false by rw [HV.out]; simp [iHead, h5])
    go_wp2
    go_ret
    exact .mk (by rw [HF.out]; rfl) hB
  have HT := Lib.hid (show stOk s = ringsB s by rw [HV.out]; simp [iHead, h1, h2, h4, h5, HN.out, h3])
  clear h1 h2 h4 h5
  go_wp2_with fail
  obtain ⟨b, rows, rfl, hbh, hO, hA⟩ := hr.2 hpos
  have hS : SameIn lo hi w w1 := fun j _ hj => hB.block j (by omega)
  have hbw : b < w1.heap.size := by have := hB.size; omega
  have hh1 : hi ≤ w1.heap.size := by have := hB.size; omega
  refine (ringsOk_any s b n cap lo hi rows _ (Own.keep hO (hS b hO.2.1 hbh)) (hA.keep hS) hbw hh1 HN.out hn2 HM.out).mono ?_
  rintro e w2 ⟨rfl, hb2⟩
  rw [← HT.out]
  go_wp2
  go_ret
  exact .mk rfl (bstep hB hB.size hb2)

end Go.Proofs.YtomfaabifpndbaaGreat
