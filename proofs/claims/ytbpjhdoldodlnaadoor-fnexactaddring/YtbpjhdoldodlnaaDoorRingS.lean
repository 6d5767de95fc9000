/-
  The walk of Seeded of the program.
-/
import Derived.Test.YtbpjhdoldodlnaaDoorRingC
namespace Go.Proofs.YtbpjhdoldodlnaaDoor
open Go.RowKit
attribute [local go_sem ↓] Go.wp_at_zero Go.wp_at_succ

set_option maxHeartbeats 400000 in
theorem iseeded_no (n v : Int) (w : World) (h : roundB n = false) : Calls Tryd.prog 57 #[.int .i64 n, .int .i64 v] w (NoRg w) := by
  go_enter Tryd.func57, Tryd.ntmps57
  go_wp2_with fail
  refine calls_abs (fun W => Below w.heap.size w W ∧ BoxAt W w.heap.size #[.int .i64 0, .int .i64 0, .bool false, .int .i64 0, .slice none 0 0] 55) ⟨(Below.refl _ _).alloc (Nat.le_refl _) _, BoxAt.new _ _ _⟩ ?_
  rintro W ⟨hB, hx⟩
  refine (inewRing_no n _ h).mono ?_
  rintro e w1 ⟨rfl, hb1⟩
  have hx1 := hx.below hb1 hx.lt
  have kx := hx1.cell
  have fx := hx1.frozen
  have lx := hx1.lt
  unfold rgV
  go_wp2
  refine bodyPost_ret (v := .tuple #[rgV 0 0 false 0 none 0 0, .bool false]) (by simp [results, Tryd.results57, go_sem, kx, lx, rgV]) rfl ⟨rfl, ?_⟩
  exact (((((((bstep hB hB.size hb1).setCell (by dsimp only; omega) _).setCell (by dsimp only; omega) _).setCell (by dsimp only; omega) _).setCell (by dsimp only; omega) _).setCell (by dsimp only; omega) _)).alloc (by simp; omega) _

set_option maxHeartbeats 400000 in
theorem iseeded_no2 (n : Nat) (v : Int) (w : World) (h : roundB n = true) (hn : n ≤ 8) (hv : valB v = false) : Calls Tryd.prog 57 #[.int .i64 n, .int .i64 v] w (NoRg w) := by
  go_enter Tryd.func57, Tryd.ntmps57
  go_wp2_with fail
  refine calls_abs (fun W => Below w.heap.size w W ∧ BoxAt W w.heap.size #[.int .i64 0, .int .i64 0, .bool false, .int .i64 0, .slice none 0 0] 55) ⟨(Below.refl _ _).alloc (Nat.le_refl _) _, BoxAt.new _ _ _⟩ ?_
  rintro W ⟨hB, hx⟩
  refine (inewRing_yes n _ h hn).mono ?_
  rintro e w1 ⟨g, cap, rfl, hO, hb1⟩
  have hx1 := hx.below hb1 hx.lt
  have lx := hx1.lt
  unfold rgV
  go_wp2_with fail
  refine calls_abs (fun W => Below w.heap.size w W ∧ BoxAt W w.heap.size #[.int .i64 0, .int .i64 0, .bool false, .int .i64 0, .slice none 0 0] 55) ⟨(bstep hB hB.size hb1).alloc (by omega) _, hx1.alloc _⟩ ?_
  clear hx1 hB hb1 hx
  rintro W ⟨hB, hx⟩
  refine (isValue_any _ _).mono ?_
  rintro e w' ⟨rfl, rfl⟩
  have kx := hx.cell
  have fx := hx.frozen
  go_wp2
  refine bodyPost_ret (v := .tuple #[rgV 0 0 false 0 none 0 0, .bool false]) (by simp [results, Tryd.results57, go_sem, kx, lx, rgV]) rfl ⟨rfl, ?_⟩
  exact (((((hB.setCell (by dsimp only; omega) _).setCell (by dsimp only; omega) _).setCell (by dsimp only; omega) _).setCell (by dsimp only; omega) _).setCell (by dsimp only; omega) _)

set_option maxHeartbeats 400000 in
theorem iseeded_yes (n : Nat) (v : Int) (w : World) (h : roundB n = true) (h1 : 1 ≤ n) (hn : n ≤ 8) (hv : valB v = true) : Calls Tryd.prog 57 #[.int .i64 n, .int .i64 v] w (RetRgB 0 1 false (-1) n (seeded n v) true w) := by
  have h2 : (0 : Int) < (n : Int) := by omega
  go_enter Tryd.func57, Tryd.ntmps57
  go_wp2_with fail
  refine calls_abs (fun W => Below w.heap.size w W ∧ BoxAt W w.heap.size #[.int .i64 0, .int .i64 0, .bool false, .int .i64 0, .slice none 0 0] 55) ⟨(Below.refl _ _).alloc (Nat.le_refl _) _, BoxAt.new _ _ _⟩ ?_
  rintro W ⟨hB, hx⟩
  refine (inewRing_yes n _ h hn).mono ?_
  rintro e w1 ⟨g, cap, rfl, hO, hb1⟩
  have hx1 := hx.below hb1 hx.lt
  have hg := hO.ge
  have lx := hx.lt
  have lg := Own.lt hO
  unfold rgV
  go_wp2_with fail
  refine calls_abs (fun W2 => Below w.heap.size w W2 ∧ BoxAt W2 w.heap.size #[.int .i64 0, .int .i64 0, .bool false, .int .i64 0, .slice none 0 0] 55 ∧ BoxAt W2 w1.heap.size #[.int .i64 0, .int .i64 0, .bool false, .int .i64 (-1), .slice (some ⟨g, 0, none⟩) n cap] 55 ∧ PlsO w.heap.size W2 g n cap (fresh n)) ⟨(bstep hB hB.size hb1).alloc (by omega) _, hx1.alloc _, BoxAt.new _ _ _, (hO.mono hB.size).al _⟩ ?_
  generalize w1.heap.size = R at *
  clear hx1 hO hB hb1
  rintro W2 ⟨hB, hx1, hr, hO⟩
  refine (isValue_any _ _).mono ?_
  rintro e w' ⟨rfl, rfl⟩
  have hat : (fresh n)[0]? = some ⟨true, 0, false, 0⟩ := fresh_at (by omega)
  have d0 := Own.cell_ Pl.cs_len hO (i := 0) (j := 0) hat rfl
  have d1 := Own.cell_ Pl.cs_len hO (i := 0) (j := 1) hat rfl
  have d2 := Own.cell_ Pl.cs_len hO (i := 0) (j := 2) hat rfl
  have d3 := Own.cell_ Pl.cs_len hO (i := 0) (j := 3) hat rfl
  simp only [Nat.zero_mul, Nat.zero_add] at d0 d1 d2 d3
  clear hat
  have df := Own.frozen_ hO
  have kr := hr.cell
  have fr := hr.frozen
  go_upto_region 5 with fail
  refine wp_abs (fun W3 => Below w.heap.size w W3 ∧ BoxAt W3 w.heap.size #[.int .i64 0, .int .i64 0, .bool false, .int .i64 0, .slice none 0 0] 55 ∧ BoxAt W3 R #[.int .i64 0, .int .i64 0, .bool false, .int .i64 (-1), .slice (some ⟨g, 0, none⟩) n cap] 55 ∧ PlsO w.heap.size W3 g n cap (seeded n v)) ⟨((((hB.setCell (by dsimp only; omega) _).setCell (by dsimp only; omega) _).setCell (by dsimp only; omega) _).setCell (by dsimp only; omega) _), ((((hx1.set_ne (by omega) _ _).set_ne (by omega) _ _).set_ne (by omega) _ _).set_ne (by omega) _ _), ((((hr.set_ne (by omega) _ _).set_ne (by omega) _ _).set_ne (by omega) _ _).set_ne (by omega) _ _), ?_⟩ ?_
  · have := Own.setEl hO Pl.cs_len (by omega) (i := 0) (by omega) (⟨true, 0, true, v⟩ : Pl)
    simp only [Nat.zero_mul] at this
    exact this
  clear hx1 hO hB hr d0 d1 d2 d3 df kr fr
  rintro W3 ⟨hB, hx1, hr, hO⟩
  have kr := hr.cell
  have fr := hr.frozen
  have kx := hx1.cell
  have fx := hx1.frozen
  go_wp2
  refine bodyPost_ret (v := .tuple #[rgV 0 1 false (-1) (some ⟨g, 0, none⟩) n cap, .bool true]) (by simp [results, Tryd.results57, go_sem, kx, rgV]) rfl ⟨g, _, rfl, ?_, ?_⟩
  · exact ((((((hO.set_ne (by omega) _ _).set_ne (by omega) _ _).set_ne (by omega) _ _).set_ne (by omega) _ _).set_ne (by omega) _ _).set_ne (by omega) _ _)
  · exact ((((((hB.setCell (by dsimp only; omega) _).setCell (by dsimp only; omega) _).setCell (by dsimp only; omega) _).setCell (by dsimp only; omega) _).setCell (by dsimp only; omega) _).setCell (by dsimp only; omega) _)

end Go.Proofs.YtbpjhdoldodlnaaDoor
