/-
  The walk of the law on NewStore.
-/
import Derived.Test.YtnebllfmnandgaaStoreI
namespace Go.Proofs.Ytnebllfmnandgaa
open Go.RowKit
set_option linter.unusedVariables false
attribute [local go_sem ↓] Go.wp_at_zero Go.wp_at_succ

/-- A store that is no more than the laws look at. -/
def Small (s : St) : Prop := s.rs.length ≤ 1048576 ∧ sumPs s.rs ≤ 1048576
theorem Small.each {s : St} (h : Small s) : ∀ r ∈ s.rs, r.ps.length ≤ 1048576 := fun r hr => Nat.le_trans (sumPs_mem hr) h.2
theorem Small.k {s : St} (h : Small s) : (1 : Int) + 4 * s.rs.length + 4 * sumPs s.rs ≤ 1000000000 := by have := h.1; have := h.2; omega
theorem newStore_small (rd mo : Int) : Small (newStore rd mo).1 := by
  unfold newStore
  split
  · rename_i h
    simp only [Bool.and_eq_true, roundB, decide_eq_true_eq] at h
    refine ⟨by simp, ?_⟩
    simp only [sumPs, Rg.fresh, fresh_len]
    omega
  · exact ⟨by simp [St.zero], by simp [St.zero, sumPs]⟩

set_option maxRecDepth 100000 in
set_option maxHeartbeats 2000000 in
theorem exactNewStore_any (rd mo : Int) (w : World)  : Calls Try.prog 5 #[.int .i64 rd, .int .i64 mo] w (RetBelow (.bool true) w) := by
  obtain ⟨S, y, hq, hS⟩ : ∃ S y, newStore rd mo = (S, y) ∧ Small S := ⟨_, _, rfl, newStore_small rd mo⟩
  have HS := Lib.hid hS; clear hS
  have HQ := Lib.hid hq; clear hq
  have hend : 0 ≤ markEnd 1 S.rs := by unfold markEnd; omega
  go_enter Try.func5, Try.ntmps5
  go_wp2_with fail
  refine (snewStore_any rd mo _).mono ?_
  rw [HQ.out]
  rintro e w1 ⟨As, ns, cs, rfl, hs, hb1⟩
  unfold stV
  go_wp2_with fail
  refine calls_abs (fun W => Below w.heap.size w W ∧ BoxAt W w1.heap.size #[.int .i64 S.rd, .int .i64 S.mo, .slice As ns cs, .int .i64 S.fi, .int .i64 S.la] 47 ∧ RgsW w.heap.size w1.heap.size W As ns cs S.rs) ⟨hb1.alloc hb1.size _, BoxAt.new _ _ _, hs.al (Nat.le_refl _) _⟩ ?_
  have l1 := hb1.size
  generalize w1.heap.size = A at *
  clear hs hb1
  rintro W ⟨hB, ha, hs⟩
  have la := ha.lt
  refine (inewStore_any rd mo _).mono ?_
  rw [HQ.out]
  rintro e w2 ⟨Ai, ni, ci, rfl, hi, hb2⟩
  unfold stV
  obtain rfl : ns = ni := hs.1.symm.trans hi.1
  have ha2 := ha.below hb2 ha.lt
  have ka := ha2.cell
  have la2 := ha2.lt
  have l2 := hb2.size
  go_wp2_with fail
  refine calls_abs (fun W' => Below w.heap.size w W' ∧ BoxAt W' A #[.int .i64 S.rd, .int .i64 S.mo, .slice As ns cs, .int .i64 S.fi, .int .i64 S.la] 47 ∧ BoxAt W' w2.heap.size #[.int .i64 S.rd, .int .i64 S.mo, .slice Ai ns ci, .int .i64 S.fi, .int .i64 S.la] 47 ∧ RgsW w.heap.size A W' As ns cs S.rs ∧ RgsD W.heap.size w2.heap.size W' Ai ns ci S.rs ∧ w2.heap.size < W'.heap.size) ⟨(bstep hB hB.size hb2).alloc (Nat.le_trans hB.size l2) _, ha2.alloc _, BoxAt.new _ _ _, (hs.below hb2 (by omega)).al (by omega) _, hi.keep (.alloc (Nat.le_refl _) _), by simp⟩ ?_
  have l3 := Nat.le_trans hB.size l2
  have lW := hB.size
  generalize w2.heap.size = G at *
  generalize W.heap.size = P at *
  clear hs hb2 ha ha2 hB hi ka la2
  rintro W2 ⟨hB, ha, hg, hs, hi, lG⟩
  have hns : ns ≤ 1048576 := by have := HS.out.1; have := hs.1; omega
  refine (eqStore_same S _ _ _ _ _ _ hi.r hs.r hns HS.out.each).mono ?_
  rintro e w3 ⟨rfl, hb3⟩
  have l3s := hb3.size
  replace ha := ha.below hb3 ha.lt
  replace hg := hg.below hb3 hg.lt
  replace hs := hs.below hb3 (by omega)
  replace hi := hi.below hb3 (by omega)
  replace hB := bstep hB hB.size hb3
  clear hb3
  have ka := ha.cell
  have kg := hg.cell
  go_wp2_with fail
  refine (markStore_any S _ _ _ 1 P G _ hi (by omega) (by omega) HS.out.k HS.out.2).mono ?_
  rintro e w4 ⟨rfl, hb4, hm⟩
  clear ka kg
  have l4s := hb4.size
  replace ha := hb4.box ha (.inl (by omega))
  replace hg := hb4.box hg (.inr (by omega))
  replace hs := hs.keep (hb4.same (.inl (by omega)) (by omega))
  replace hB := hB.trans (hb4.below (by omega) hB.size)
  clear hb4 hi
  have kg := hg.cell
  go_wp2_with fail
  refine (heldStore_any _ S _ _ _ 1 _ hm.r (by omega) HS.out.k HS.out.2).mono ?_
  rintro e w5 ⟨rfl, hb5⟩
  clear kg
  have l5s := hb5.size
  replace ha := ha.below hb5 ha.lt
  replace hg := hg.below hb5 hg.lt
  replace hs := hs.below hb5 (by omega)
  replace hm := hm.below hb5 (by omega)
  replace hB := bstep hB hB.size hb5
  clear hb5
  obtain ⟨z, hz⟩ : ∃ z, z = markEnd 1 S.rs := ⟨_, rfl⟩
  rw [← hz] at hend
  have HE2 := Lib.hid hz
  rw [← hz]
  clear hz
  go_wp2_with fail
  refine (inewStore_any rd mo _).mono ?_
  rw [HQ.out]
  rintro e w6 ⟨Aj, nj, cj, rfl, hj, hb6⟩
  unfold stV
  obtain rfl : ns = nj := hs.1.symm.trans hj.1
  have l6s := hb6.size
  replace ha := ha.below hb6 ha.lt
  replace hg := hg.below hb6 hg.lt
  replace hs := hs.below hb6 (by omega)
  replace hm := hm.below hb6 (by omega)
  replace hB := bstep hB hB.size hb6
  clear hb6
  have la6 := ha.lt
  have ka := ha.cell
  go_wp2_with fail
  refine calls_abs (fun W' => Below w.heap.size w W' ∧ BoxAt W' A #[.int .i64 S.rd, .int .i64 S.mo, .slice As ns cs, .int .i64 S.fi, .int .i64 S.la] 47 ∧ BoxAt W' G #[.int .i64 S.rd, .int .i64 S.mo, .slice Ai ns ci, .int .i64 S.fi, .int .i64 S.la] 47 ∧ RgsW w.heap.size A W' As ns cs S.rs ∧ RgsD P G W' Ai ns ci (markRgs 1 S.rs) ∧ RgsD w5.heap.size w6.heap.size W' Aj ns cj S.rs ∧ G < W'.heap.size ∧ w6.heap.size ≤ W'.heap.size) ⟨hB.alloc hB.size _, ha.alloc _, hg.alloc _, hs.al (by omega) _, hm.keep (.alloc (by omega) _), hj.keep (.alloc (Nat.le_refl _) _), by simp; omega, by simp⟩ ?_
  clear ka ha hg hs hm hj hB
  rintro W6 ⟨hB, ha, hg, hs, hm, hj, lG6, l6⟩
  refine (eqStore_same S _ _ _ _ _ _ hj.r hs.r hns HS.out.each).mono ?_
  rintro e w7 ⟨rfl, hb7⟩
  replace hg := hg.below hb7 hg.lt
  replace hm := hm.below hb7 (by omega)
  replace hB := bstep hB hB.size hb7
  clear hb7 ha hs hj
  have kg := hg.cell
  go_wp2_with fail
  refine (heldStore_any _ S _ _ _ 1 _ hm.r (by omega) HS.out.k HS.out.2).mono ?_
  rintro e w8 ⟨rfl, hb8⟩
  replace hB := bstep hB hB.size hb8
  clear kg
  rw [← HE2.out]
  go_wp2
  go_ret
  exact .mk rfl hB

end Go.Proofs.Ytnebllfmnandgaa
