/-
  The walks of the laws on NewRing and on Seeded.
-/
import Derived.Test.YtalbdfpjhedhhaaRingS
namespace Go.Proofs.Ytalbdfpjhedhhaa
open Go.RowKit
attribute [local go_sem ↓] Go.wp_at_zero Go.wp_at_succ

theorem But.own {k N : Nat} {w w' : World} {g n cap : Nat} {l : List Pl} (h : But k w w') (ho : PlsO N w g n cap l) (hne : g ≠ k) : PlsO N w' g n cap l := Own.keep ho (h.block g (Own.lt ho) hne)

set_option maxHeartbeats 400000 in
theorem markRing_nil (h t : Int) (c : Bool) (x : Int) (w : World) :
    Calls Try.prog 24 #[rgV h t c x none 0 0, .int .i64 1] w (RetBelow (.int .i64 1) w) := by
  unfold rgV
  go_enter Try.func24, Try.ntmps24
  go_wp2_with fail
  refine calls_abs (fun W => Below w.heap.size w W) ((Below.refl _ _).alloc (Nat.le_refl _) _) ?_
  rintro W hB
  have hm : Calls Try.prog 48 #[.slice none 0 0, .int .i64 1] W (RetBelow (.int .i64 1) W) := by
    go_enter Try.func48, Try.ntmps48
    go_wp2
    go_loopw [1, 5] (fun s1 s5 W' => s1 = .int .i64 1 ∧ s5 = .int .i64 0 ∧ Below W.heap.size W W') (fun _ _ _ => 0)
    case atStart => exact ⟨rfl, rfl, Below.refl _ _⟩
    case round =>
      obtain ⟨rfl, rfl, hB'⟩ := hrel
      go_wp2
      go_ret
      exact ⟨rfl, hB'⟩
  refine hm.mono ?_
  clear hm
  rintro e w1 ⟨rfl, hb1⟩
  go_wp2
  go_ret
  exact .mk rfl (bstep hB hB.size hb1)

theorem nil_pls (w : World) : PlsR 0 w none 0 [] := ⟨rfl, fun h => absurd h (by omega)⟩

set_option maxHeartbeats 1000000 in
theorem exactNewRing_yes (n : Nat) (w : World) (h : roundB n = true) (h1 : 1 ≤ n) (hn : n ≤ 8) : Calls Try.prog 5 #[.int .i64 n] w (RetBelow (.bool true) w) := by
  go_enter Try.func5, Try.ntmps5
  go_wp2_with fail
  refine (snewRing_yes n _ h h1 hn).mono ?_
  rintro e w1 ⟨gs, cs, rfl, hs, hb1⟩
  unfold rgV
  go_wp2_with fail
  have ls := Own.lt hs
  refine calls_abs (fun W => Below w.heap.size w W ∧ BoxAt W w1.heap.size #[.int .i64 0, .int .i64 0, .bool false, .int .i64 (-1), .slice (some ⟨gs, 0, none⟩) n cs] 27 ∧ PlsO w.heap.size W gs n cs (fresh n)) ⟨hb1.alloc hb1.size _, BoxAt.new _ _ _, hs.al _⟩ ?_
  have l1 := hb1.size
  generalize w1.heap.size = A at *
  clear hs hb1
  rintro W ⟨hB, ha, hs⟩
  refine (inewRing_yes n _ h hn).mono ?_
  rintro e w2 ⟨gi, ci, rfl, hi, hb2⟩
  unfold rgV
  have la := ha.lt
  have li := Own.lt hi
  have gi0 := hi.ge
  have ha2 := ha.below hb2 ha.lt
  have ka := ha2.cell
  have la2 := ha2.lt
  have l2 := hb2.size
  go_wp2_with fail
  refine calls_abs (fun W' => Below w.heap.size w W' ∧ BoxAt W' A #[.int .i64 0, .int .i64 0, .bool false, .int .i64 (-1), .slice (some ⟨gs, 0, none⟩) n cs] 27 ∧ BoxAt W' w2.heap.size #[.int .i64 0, .int .i64 0, .bool false, .int .i64 (-1), .slice (some ⟨gi, 0, none⟩) n ci] 27 ∧ PlsO w.heap.size W' gs n cs (fresh n) ∧ PlsO w.heap.size W' gi n ci (fresh n)) ⟨(bstep hB hB.size hb2).alloc (Nat.le_trans hB.size l2) _, ha2.alloc _, BoxAt.new _ _ _, (hs.below hb2).al _, (hi.mono hB.size).al _⟩ ?_
  have hsi : gs ≠ gi := by have := Own.lt hs; omega
  have l3 := Nat.le_trans hB.size l2
  generalize w2.heap.size = G at *
  clear hs hb2 ha ha2 hB hi ka la2
  rintro W2 ⟨hB, ha, hg, hs, hi⟩
  refine (eqRing_same _ _ _ _ _ _ _ _ _ _ _ (hi.r.mono (Nat.zero_le _)) (hs.r.mono (Nat.zero_le _)) (by omega)).mono ?_
  rintro e w3 ⟨rfl, hb3⟩
  replace ha := ha.below hb3 ha.lt
  replace hg := hg.below hb3 hg.lt
  replace hs := hs.below hb3
  replace hi := hi.below hb3
  replace hB := bstep hB hB.size hb3
  clear hb3
  have ka := ha.cell
  have kg := hg.cell
  go_wp2_with fail
  refine (markRing_any _ _ _ _ w.heap.size gi n ci _ _ hi (by omega)).mono ?_
  rintro e w4 ⟨rfl, hb4, hm⟩
  clear ka kg
  have lA : A ≠ gi := by omega
  have lG : G ≠ gi := by omega
  replace ha := hb4.box ha lA
  replace hg := hb4.box hg lG
  replace hs := hb4.own hs hsi
  have gim := hm.ge
  replace hB := hB.trans (hb4.below gim hB.size)
  clear hb4 hi
  have kg := hg.cell
  go_wp2_with fail
  refine (heldRing_any _ _ _ _ _ _ _ _ (hm.r.mono (Nat.zero_le _)) (by omega)).mono ?_
  rintro e w5 ⟨rfl, hb5⟩
  clear kg
  replace ha := ha.below hb5 ha.lt
  replace hg := hg.below hb5 hg.lt
  replace hs := hs.below hb5
  replace hm := hm.below hb5
  replace hB := bstep hB hB.size hb5
  clear hb5
  go_wp2_with fail
  refine (inewRing_yes n _ h hn).mono ?_
  rintro e w6 ⟨gj, cj, rfl, hj, hb6⟩
  unfold rgV
  have lj := Own.lt hj
  replace ha := ha.below hb6 ha.lt
  replace hg := hg.below hb6 hg.lt
  replace hs := hs.below hb6
  replace hm := hm.below hb6
  replace hj := hj.mono hB.size
  replace hB := bstep hB hB.size hb6
  clear hb6
  have la6 := ha.lt
  have ka := ha.cell
  go_wp2_with fail
  refine calls_abs (fun W' => Below w.heap.size w W' ∧ BoxAt W' A #[.int .i64 0, .int .i64 0, .bool false, .int .i64 (-1), .slice (some ⟨gs, 0, none⟩) n cs] 27 ∧ BoxAt W' G #[.int .i64 0, .int .i64 0, .bool false, .int .i64 (-1), .slice (some ⟨gi, 0, none⟩) n ci] 27 ∧ PlsO w.heap.size W' gs n cs (fresh n) ∧ PlsO w.heap.size W' gi n ci (marks 1 n) ∧ PlsO w.heap.size W' gj n cj (fresh n)) ⟨hB.alloc hB.size _, ha.alloc _, hg.alloc _, hs.al _, hm.al _, hj.al _⟩ ?_
  clear ka ha hg hs hm hj hB
  rintro W6 ⟨hB, ha, hg, hs, hm, hj⟩
  refine (eqRing_same _ _ _ _ _ _ _ _ _ _ _ (hj.r.mono (Nat.zero_le _)) (hs.r.mono (Nat.zero_le _)) (by omega)).mono ?_
  rintro e w7 ⟨rfl, hb7⟩
  replace hg := hg.below hb7 hg.lt
  replace hm := hm.below hb7
  replace hB := bstep hB hB.size hb7
  clear hb7 ha hs hj
  have kg := hg.cell
  go_wp2_with fail
  refine (heldRing_any _ _ _ _ _ _ _ _ (hm.r.mono (Nat.zero_le _)) (by omega)).mono ?_
  rintro e w8 ⟨rfl, hb8⟩
  replace hB := bstep hB hB.size hb8
  clear kg
  go_wp2
  go_ret
  exact .mk rfl hB

set_option maxHeartbeats 1000000 in
theorem exactNewRing_no (n : Int) (w : World) (h : roundB n = false) : Calls Try.prog 5 #[.int .i64 n] w (RetBelow (.bool true) w) := by
  go_enter Try.func5, Try.ntmps5
  go_wp2_with fail
  refine (snewRing_no n _ h).mono ?_
  rintro e w1 ⟨rfl, hb1⟩
  unfold rgV
  go_wp2_with fail
  refine calls_abs (fun W => Below w.heap.size w W ∧ BoxAt W w1.heap.size #[.int .i64 0, .int .i64 0, .bool false, .int .i64 0, .slice none 0 0] 27) ⟨hb1.alloc hb1.size _, BoxAt.new _ _ _⟩ ?_
  generalize w1.heap.size = A at *
  clear hb1
  rintro W ⟨hB, ha⟩
  refine (inewRing_no n _ h).mono ?_
  rintro e w2 ⟨rfl, hb2⟩
  unfold rgV
  replace ha := ha.below hb2 ha.lt
  replace hB := bstep hB hB.size hb2
  clear hb2
  have la := ha.lt
  have ka := ha.cell
  go_wp2_with fail
  refine calls_abs (fun W' => Below w.heap.size w W' ∧ BoxAt W' A #[.int .i64 0, .int .i64 0, .bool false, .int .i64 0, .slice none 0 0] 27 ∧ BoxAt W' w2.heap.size #[.int .i64 0, .int .i64 0, .bool false, .int .i64 0, .slice none 0 0] 27) ⟨hB.alloc hB.size _, ha.alloc _, BoxAt.new _ _ _⟩ ?_
  generalize w2.heap.size = G at *
  clear hB ha ka
  rintro W2 ⟨hB, ha, hg⟩
  refine (eqRing_same _ _ _ _ _ _ _ _ _ [] _ (nil_pls _) (nil_pls _) (by omega)).mono ?_
  rintro e w3 ⟨rfl, hb3⟩
  replace ha := ha.below hb3 ha.lt
  replace hg := hg.below hb3 hg.lt
  replace hB := bstep hB hB.size hb3
  clear hb3
  have ka := ha.cell
  have kg := hg.cell
  go_wp2_with fail
  refine (markRing_nil _ _ _ _ _).mono ?_
  rintro e w4 ⟨rfl, hb4⟩
  clear ka kg
  replace ha := ha.below hb4 ha.lt
  replace hg := hg.below hb4 hg.lt
  replace hB := bstep hB hB.size hb4
  clear hb4
  have kg := hg.cell
  go_wp2_with fail
  refine (heldRing_any _ _ _ _ _ 0 _ _ (nil_pls _) (by omega)).mono ?_
  rintro e w5 ⟨rfl, hb5⟩
  clear kg
  replace ha := ha.below hb5 ha.lt
  replace hg := hg.below hb5 hg.lt
  replace hB := bstep hB hB.size hb5
  clear hb5
  go_wp2_with fail
  refine (inewRing_no n _ h).mono ?_
  rintro e w6 ⟨rfl, hb6⟩
  unfold rgV
  replace ha := ha.below hb6 ha.lt
  replace hg := hg.below hb6 hg.lt
  replace hB := bstep hB hB.size hb6
  clear hb6
  have la6 := ha.lt
  have ka := ha.cell
  go_wp2_with fail
  refine calls_abs (fun W' => Below w.heap.size w W' ∧ BoxAt W' A #[.int .i64 0, .int .i64 0, .bool false, .int .i64 0, .slice none 0 0] 27 ∧ BoxAt W' G #[.int .i64 0, .int .i64 0, .bool false, .int .i64 0, .slice none 0 0] 27) ⟨hB.alloc hB.size _, ha.alloc _, hg.alloc _⟩ ?_
  clear ka ha hg hB
  rintro W6 ⟨hB, ha, hg⟩
  refine (eqRing_same _ _ _ _ _ _ _ _ _ [] _ (nil_pls _) (nil_pls _) (by omega)).mono ?_
  rintro e w7 ⟨rfl, hb7⟩
  replace hg := hg.below hb7 hg.lt
  replace hB := bstep hB hB.size hb7
  clear hb7 ha
  have kg := hg.cell
  go_wp2_with fail
  refine (heldRing_any _ _ _ _ _ 0 _ _ (nil_pls _) (by omega)).mono ?_
  rintro e w8 ⟨rfl, hb8⟩
  replace hB := bstep hB hB.size hb8
  clear kg
  go_wp2
  go_ret
  exact .mk rfl hB

set_option maxHeartbeats 1000000 in
theorem exactSeeded_yes (n : Nat) (v : Int) (w : World) (h : roundB n = true) (h1 : 1 ≤ n) (hn : n ≤ 8) (hv : valB v = true) : Calls Try.prog 6 #[.int .i64 n, .int .i64 v] w (RetBelow (.bool true) w) := by
  go_enter Try.func6, Try.ntmps6
  go_wp2_with fail
  refine (sseeded_yes n v _ h hv h1 hn).mono ?_
  rintro e w1 ⟨gs, cs, rfl, hs, hb1⟩
  unfold rgV
  go_wp2_with fail
  have ls := Own.lt hs
  refine calls_abs (fun W => Below w.heap.size w W ∧ BoxAt W w1.heap.size #[.int .i64 0, .int .i64 1, .bool false, .int .i64 (-1), .slice (some ⟨gs, 0, none⟩) n cs] 27 ∧ PlsO w.heap.size W gs n cs (seeded n v)) ⟨hb1.alloc hb1.size _, BoxAt.new _ _ _, hs.al _⟩ ?_
  have l1 := hb1.size
  generalize w1.heap.size = A at *
  clear hs hb1
  rintro W ⟨hB, ha, hs⟩
  refine (iseeded_yes n v _ h h1 hn hv).mono ?_
  rintro e w2 ⟨gi, ci, rfl, hi, hb2⟩
  unfold rgV
  have la := ha.lt
  have li := Own.lt hi
  have gi0 := hi.ge
  have ha2 := ha.below hb2 ha.lt
  have ka := ha2.cell
  have la2 := ha2.lt
  have l2 := hb2.size
  go_wp2_with fail
  refine calls_abs (fun W' => Below w.heap.size w W' ∧ BoxAt W' A #[.int .i64 0, .int .i64 1, .bool false, .int .i64 (-1), .slice (some ⟨gs, 0, none⟩) n cs] 27 ∧ BoxAt W' w2.heap.size #[.int .i64 0, .int .i64 1, .bool false, .int .i64 (-1), .slice (some ⟨gi, 0, none⟩) n ci] 27 ∧ PlsO w.heap.size W' gs n cs (seeded n v) ∧ PlsO w.heap.size W' gi n ci (seeded n v)) ⟨(bstep hB hB.size hb2).alloc (Nat.le_trans hB.size l2) _, ha2.alloc _, BoxAt.new _ _ _, (hs.below hb2).al _, (hi.mono hB.size).al _⟩ ?_
  have hsi : gs ≠ gi := by have := Own.lt hs; omega
  have l3 := Nat.le_trans hB.size l2
  generalize w2.heap.size = G at *
  clear hs hb2 ha ha2 hB hi ka la2
  rintro W2 ⟨hB, ha, hg, hs, hi⟩
  refine (eqRing_same _ _ _ _ _ _ _ _ _ _ _ (hi.r.mono (Nat.zero_le _)) (hs.r.mono (Nat.zero_le _)) (by omega)).mono ?_
  rintro e w3 ⟨rfl, hb3⟩
  replace ha := ha.below hb3 ha.lt
  replace hg := hg.below hb3 hg.lt
  replace hs := hs.below hb3
  replace hi := hi.below hb3
  replace hB := bstep hB hB.size hb3
  clear hb3
  have ka := ha.cell
  have kg := hg.cell
  go_wp2_with fail
  refine (markRing_any _ _ _ _ w.heap.size gi n ci _ _ hi (by omega)).mono ?_
  rintro e w4 ⟨rfl, hb4, hm⟩
  clear ka kg
  have lA : A ≠ gi := by omega
  have lG : G ≠ gi := by omega
  replace ha := hb4.box ha lA
  replace hg := hb4.box hg lG
  replace hs := hb4.own hs hsi
  have gim := hm.ge
  replace hB := hB.trans (hb4.below gim hB.size)
  clear hb4 hi
  have kg := hg.cell
  go_wp2_with fail
  refine (heldRing_any _ _ _ _ _ _ _ _ (hm.r.mono (Nat.zero_le _)) (by omega)).mono ?_
  rintro e w5 ⟨rfl, hb5⟩
  clear kg
  replace ha := ha.below hb5 ha.lt
  replace hg := hg.below hb5 hg.lt
  replace hs := hs.below hb5
  replace hm := hm.below hb5
  replace hB := bstep hB hB.size hb5
  clear hb5
  go_wp2_with fail
  refine (iseeded_yes n v _ h h1 hn hv).mono ?_
  rintro e w6 ⟨gj, cj, rfl, hj, hb6⟩
  unfold rgV
  have lj := Own.lt hj
  replace ha := ha.below hb6 ha.lt
  replace hg := hg.below hb6 hg.lt
  replace hs := hs.below hb6
  replace hm := hm.below hb6
  replace hj := hj.mono hB.size
  replace hB := bstep hB hB.size hb6
  clear hb6
  have la6 := ha.lt
  have ka := ha.cell
  go_wp2_with fail
  refine calls_abs (fun W' => Below w.heap.size w W' ∧ BoxAt W' A #[.int .i64 0, .int .i64 1, .bool false, .int .i64 (-1), .slice (some ⟨gs, 0, none⟩) n cs] 27 ∧ BoxAt W' G #[.int .i64 0, .int .i64 1, .bool false, .int .i64 (-1), .slice (some ⟨gi, 0, none⟩) n ci] 27 ∧ PlsO w.heap.size W' gs n cs (seeded n v) ∧ PlsO w.heap.size W' gi n ci (marks 1 n) ∧ PlsO w.heap.size W' gj n cj (seeded n v)) ⟨hB.alloc hB.size _, ha.alloc _, hg.alloc _, hs.al _, hm.al _, hj.al _⟩ ?_
  clear ka ha hg hs hm hj hB
  rintro W6 ⟨hB, ha, hg, hs, hm, hj⟩
  refine (eqRing_same _ _ _ _ _ _ _ _ _ _ _ (hj.r.mono (Nat.zero_le _)) (hs.r.mono (Nat.zero_le _)) (by omega)).mono ?_
  rintro e w7 ⟨rfl, hb7⟩
  replace hg := hg.below hb7 hg.lt
  replace hm := hm.below hb7
  replace hB := bstep hB hB.size hb7
  clear hb7 ha hs hj
  have kg := hg.cell
  go_wp2_with fail
  refine (heldRing_any _ _ _ _ _ _ _ _ (hm.r.mono (Nat.zero_le _)) (by omega)).mono ?_
  rintro e w8 ⟨rfl, hb8⟩
  replace hB := bstep hB hB.size hb8
  clear kg
  go_wp2
  go_ret
  exact .mk rfl hB

set_option maxHeartbeats 1000000 in
theorem exactSeeded_no (n v : Int) (w : World) (h : roundB n = false) : Calls Try.prog 6 #[.int .i64 n, .int .i64 v] w (RetBelow (.bool true) w) := by
  go_enter Try.func6, Try.ntmps6
  go_wp2_with fail
  refine (sseeded_no n v _ (by rw [h]; rfl)).mono ?_
  rintro e w1 ⟨rfl, hb1⟩
  unfold rgV
  go_wp2_with fail
  refine calls_abs (fun W => Below w.heap.size w W ∧ BoxAt W w1.heap.size #[.int .i64 0, .int .i64 0, .bool false, .int .i64 0, .slice none 0 0] 27) ⟨hb1.alloc hb1.size _, BoxAt.new _ _ _⟩ ?_
  generalize w1.heap.size = A at *
  clear hb1
  rintro W ⟨hB, ha⟩
  refine (iseeded_no n v _ h).mono ?_
  rintro e w2 ⟨rfl, hb2⟩
  unfold rgV
  replace ha := ha.below hb2 ha.lt
  replace hB := bstep hB hB.size hb2
  clear hb2
  have la := ha.lt
  have ka := ha.cell
  go_wp2_with fail
  refine calls_abs (fun W' => Below w.heap.size w W' ∧ BoxAt W' A #[.int .i64 0, .int .i64 0, .bool false, .int .i64 0, .slice none 0 0] 27 ∧ BoxAt W' w2.heap.size #[.int .i64 0, .int .i64 0, .bool false, .int .i64 0, .slice none 0 0] 27) ⟨hB.alloc hB.size _, ha.alloc _, BoxAt.new _ _ _⟩ ?_
  generalize w2.heap.size = G at *
  clear hB ha ka
  rintro W2 ⟨hB, ha, hg⟩
  refine (eqRing_same _ _ _ _ _ _ _ _ _ [] _ (nil_pls _) (nil_pls _) (by omega)).mono ?_
  rintro e w3 ⟨rfl, hb3⟩
  replace ha := ha.below hb3 ha.lt
  replace hg := hg.below hb3 hg.lt
  replace hB := bstep hB hB.size hb3
  clear hb3
  have ka := ha.cell
  have kg := hg.cell
  go_wp2_with fail
  refine (markRing_nil _ _ _ _ _).mono ?_
  rintro e w4 ⟨rfl, hb4⟩
  clear ka kg
  replace ha := ha.below hb4 ha.lt
  replace hg := hg.below hb4 hg.lt
  replace hB := bstep hB hB.size hb4
  clear hb4
  have kg := hg.cell
  go_wp2_with fail
  refine (heldRing_any _ _ _ _ _ 0 _ _ (nil_pls _) (by omega)).mono ?_
  rintro e w5 ⟨rfl, hb5⟩
  clear kg
  replace ha := ha.below hb5 ha.lt
  replace hg := hg.below hb5 hg.lt
  replace hB := bstep hB hB.size hb5
  clear hb5
  go_wp2_with fail
  refine (iseeded_no n v _ h).mono ?_
  rintro e w6 ⟨rfl, hb6⟩
  unfold rgV
  replace ha := ha.below hb6 ha.lt
  replace hg := hg.below hb6 hg.lt
  replace hB := bstep hB hB.size hb6
  clear hb6
  have la6 := ha.lt
  have ka := ha.cell
  go_wp2_with fail
  refine calls_abs (fun W' => Below w.heap.size w W' ∧ BoxAt W' A #[.int .i64 0, .int .i64 0, .bool false, .int .i64 0, .slice none 0 0] 27 ∧ BoxAt W' G #[.int .i64 0, .int .i64 0, .bool false, .int .i64 0, .slice none 0 0] 27) ⟨hB.alloc hB.size _, ha.alloc _, hg.alloc _⟩ ?_
  clear ka ha hg hB
  rintro W6 ⟨hB, ha, hg⟩
  refine (eqRing_same _ _ _ _ _ _ _ _ _ [] _ (nil_pls _) (nil_pls _) (by omega)).mono ?_
  rintro e w7 ⟨rfl, hb7⟩
  replace hg := hg.below hb7 hg.lt
  replace hB := bstep hB hB.size hb7
  clear hb7 ha
  have kg := hg.cell
  go_wp2_with fail
  refine (heldRing_any _ _ _ _ _ 0 _ _ (nil_pls _) (by omega)).mono ?_
  rintro e w8 ⟨rfl, hb8⟩
  replace hB := bstep hB hB.size hb8
  clear kg
  go_wp2
  go_ret
  exact .mk rfl hB

set_option maxHeartbeats 1000000 in
theorem exactSeeded_no2 (n : Nat) (v : Int) (w : World) (h : roundB n = true) (hn : n ≤ 8) (hv : valB v = false) : Calls Try.prog 6 #[.int .i64 n, .int .i64 v] w (RetBelow (.bool true) w) := by
  go_enter Try.func6, Try.ntmps6
  go_wp2_with fail
  refine (sseeded_no n v _ (by rw [h, hv]; rfl)).mono ?_
  rintro e w1 ⟨rfl, hb1⟩
  unfold rgV
  go_wp2_with fail
  refine calls_abs (fun W => Below w.heap.size w W ∧ BoxAt W w1.heap.size #[.int .i64 0, .int .i64 0, .bool false, .int .i64 0, .slice none 0 0] 27) ⟨hb1.alloc hb1.size _, BoxAt.new _ _ _⟩ ?_
  generalize w1.heap.size = A at *
  clear hb1
  rintro W ⟨hB, ha⟩
  refine (iseeded_no2 n v _ h hn hv).mono ?_
  rintro e w2 ⟨rfl, hb2⟩
  unfold rgV
  replace ha := ha.below hb2 ha.lt
  replace hB := bstep hB hB.size hb2
  clear hb2
  have la := ha.lt
  have ka := ha.cell
  go_wp2_with fail
  refine calls_abs (fun W' => Below w.heap.size w W' ∧ BoxAt W' A #[.int .i64 0, .int .i64 0, .bool false, .int .i64 0, .slice none 0 0] 27 ∧ BoxAt W' w2.heap.size #[.int .i64 0, .int .i64 0, .bool false, .int .i64 0, .slice none 0 0] 27) ⟨hB.alloc hB.size _, ha.alloc _, BoxAt.new _ _ _⟩ ?_
  generalize w2.heap.size = G at *
  clear hB ha ka
  rintro W2 ⟨hB, ha, hg⟩
  refine (eqRing_same _ _ _ _ _ _ _ _ _ [] _ (nil_pls _) (nil_pls _) (by omega)).mono ?_
  rintro e w3 ⟨rfl, hb3⟩
  replace ha := ha.below hb3 ha.lt
  replace hg := hg.below hb3 hg.lt
  replace hB := bstep hB hB.size hb3
  clear hb3
  have ka := ha.cell
  have kg := hg.cell
  go_wp2_with fail
  refine (markRing_nil _ _ _ _ _).mono ?_
  rintro e w4 ⟨rfl, hb4⟩
  clear ka kg
  replace ha := ha.below hb4 ha.lt
  replace hg := hg.below hb4 hg.lt
  replace hB := bstep hB hB.size hb4
  clear hb4
  have kg := hg.cell
  go_wp2_with fail
  refine (heldRing_any _ _ _ _ _ 0 _ _ (nil_pls _) (by omega)).mono ?_
  rintro e w5 ⟨rfl, hb5⟩
  clear kg
  replace ha := ha.below hb5 ha.lt
  replace hg := hg.below hb5 hg.lt
  replace hB := bstep hB hB.size hb5
  clear hb5
  go_wp2_with fail
  refine (iseeded_no2 n v _ h hn hv).mono ?_
  rintro e w6 ⟨rfl, hb6⟩
  unfold rgV
  replace ha := ha.below hb6 ha.lt
  replace hg := hg.below hb6 hg.lt
  replace hB := bstep hB hB.size hb6
  clear hb6
  have la6 := ha.lt
  have ka := ha.cell
  go_wp2_with fail
  refine calls_abs (fun W' => Below w.heap.size w W' ∧ BoxAt W' A #[.int .i64 0, .int .i64 0, .bool false, .int .i64 0, .slice none 0 0] 27 ∧ BoxAt W' G #[.int .i64 0, .int .i64 0, .bool false, .int .i64 0, .slice none 0 0] 27) ⟨hB.alloc hB.size _, ha.alloc _, hg.alloc _⟩ ?_
  clear ka ha hg hB
  rintro W6 ⟨hB, ha, hg⟩
  refine (eqRing_same _ _ _ _ _ _ _ _ _ [] _ (nil_pls _) (nil_pls _) (by omega)).mono ?_
  rintro e w7 ⟨rfl, hb7⟩
  replace hg := hg.below hb7 hg.lt
  replace hB := bstep hB hB.size hb7
  clear hb7 ha
  have kg := hg.cell
  go_wp2_with fail
  refine (heldRing_any _ _ _ _ _ 0 _ _ (nil_pls _) (by omega)).mono ?_
  rintro e w8 ⟨rfl, hb8⟩
  replace hB := bstep hB hB.size hb8
  clear kg
  go_wp2
  go_ret
  exact .mk rfl hB

theorem round_nat {z : Int} (h : roundB z = true) : ∃ n : Nat, z = n ∧ 1 ≤ n ∧ n ≤ 8 := by
  have h' : 2 ≤ z ∧ z ≤ 8 := by simpa [roundB] using h
  exact ⟨z.toNat, by omega, by omega, by omega⟩

theorem exactNewRing_any (z : Int) (w : World) : Calls Try.prog 5 #[.int .i64 z] w (RetBelow (.bool true) w) := by
  cases h : roundB z with
  | false => exact exactNewRing_no z w h
  | true =>
    obtain ⟨n, rfl, h1, h8⟩ := round_nat h
    exact exactNewRing_yes n w h h1 h8

theorem exactSeeded_any (z v : Int) (w : World) : Calls Try.prog 6 #[.int .i64 z, .int .i64 v] w (RetBelow (.bool true) w) := by
  cases h : roundB z with
  | false => exact exactSeeded_no z v w h
  | true =>
    obtain ⟨n, rfl, h1, h8⟩ := round_nat h
    cases hv : valB v with
    | false => exact exactSeeded_no2 n v w h h8 hv
    | true => exact exactSeeded_yes n v w h h1 h8 hv

end Go.Proofs.Ytalbdfpjhedhhaa
