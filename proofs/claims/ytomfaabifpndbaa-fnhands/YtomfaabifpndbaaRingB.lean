/-
  The walks of NewRing, of both sides, and of the laws' helpers on rings.
-/
import Derived.Test.YtomfaabifpndbaaRingA
import Derived.OwnWalk
namespace Go.Proofs.Ytomfaabifpndbaa
set_option linter.unusedSimpArgs false
set_option linter.unusedVariables false
open Go.RowKit
attribute [local go_sem ↓] Go.wp_at_zero Go.wp_at_succ

/-- A ring's value. -/
def rgV (h t : Int) (c : Bool) (x : Int) (A : Option Addr) (n cap : Nat) : Value := .agg #[.int .i64 h, .int .i64 t, .bool c, .int .i64 x, .slice A n cap]

/-- A ring of the call's own is returned. -/
def RetRg (h t : Int) (c : Bool) (x : Int) (n : Nat) (l : List Pl) (w : World) (e : Ending) (w' : World) : Prop :=
  ∃ g cap, e = .returned (rgV h t c x (some ⟨g, 0, none⟩) n cap) ∧ PlsO w.heap.size w' g n cap l ∧ Below w.heap.size w w'
/-- Likewise, and a bool. -/
def RetRgB (h t : Int) (c : Bool) (x : Int) (n : Nat) (l : List Pl) (b : Bool) (w : World) (e : Ending) (w' : World) : Prop :=
  ∃ g cap, e = .returned (.tuple #[rgV h t c x (some ⟨g, 0, none⟩) n cap, .bool b]) ∧ PlsO w.heap.size w' g n cap l ∧ Below w.heap.size w w'

set_option maxHeartbeats 400000 in
theorem szRing_any (h t : Int) (c : Bool) (x : Int) (A : Option Addr) (n cap : Nat) (left : Int) (w : World) (hn : n ≤ maxLen) (h0 : 0 ≤ left) (h1 : left ≤ 1048576) :
    Calls Try.prog 86 #[rgV h t c x A n cap, .int .i64 left] w (RetBelow (.int .i64 (szI left n)) w) := by
  unfold rgV
  go_enter Try.func86, Try.ntmps86
  go_wp2_with fail
  refine (szPlaceS_any _ _ _ _ _ hn h0 h1).mono ?_
  rintro e w1 ⟨rfl, hb1⟩
  have hB : Below w.heap.size w w1 := bstep ((Below.refl _ _).alloc (Nat.le_refl _) _) (by simp) hb1
  have hs : szI left n = -1 ∨ 0 ≤ szI left n := by unfold szI; split <;> omega
  generalize szI left n = z at *
  rcases hs with rfl | hs
  all_goals
    go_wp2
    go_ret
    exact .mk rfl hB

set_option maxHeartbeats 400000 in
theorem toRing_any (h t : Int) (c : Bool) (x : Int) (A : Option Addr) (n cap : Nat) (l : List Pl) (w : World) (hl : PlsR 0 w A n l) (hn : n ≤ 1048576) :
    Calls Try.prog 87 #[rgV h t c x A n cap] w (RetRg h t c x n l w) := by
  unfold rgV
  go_enter Try.func87, Try.ntmps87
  go_wp2_with fail
  refine calls_abs (fun W => Below w.heap.size w W ∧ BoxAt W (w.heap.size + 1) #[.int .i64 0, .int .i64 0, .bool false, .int .i64 0, .slice none 0 0] 98 ∧ BoxAt W (w.heap.size + 1 + 1) #[.int .i64 h, .int .i64 t, .bool c, .int .i64 x, .slice none 0 0] 98) ?_ ?_
  · exact ⟨(((Below.refl _ _).alloc (Nat.le_refl _) _).alloc (by simp) _).alloc (by simp; omega) _, (BoxAt.new' (by simp)).alloc _, BoxAt.new' (by simp)⟩
  rintro W ⟨hB, hx, hy⟩
  refine (toPlaceS_any _ _ _ l _ (hl.below hB) hn).mono ?_
  rintro e w1 ⟨g, rfl, hO, hb1⟩
  have hx1 := hx.below hb1 hx.lt
  have hy1 := hy.below hb1 hy.lt
  have kx := hx1.cell
  have fx := hx1.frozen
  have ky := hy1.cell
  have fy := hy1.frozen
  have hg := hO.ge
  have lx := hx.lt
  have ly := hy.lt
  go_wp2
  refine bodyPost_ret (v := rgV h t c x (some ⟨g, 0, none⟩) n n) (by simp [results, Try.results87, go_sem, kx, ky, rgV]) rfl ⟨g, n, rfl, ?_, ?_⟩
  · exact (((((((hO.mono hB.size).set_ne (by omega) _ _).set_ne (by omega) _ _).set_ne (by omega) _ _).set_ne (by omega) _ _).set_ne (by omega) _ _).set_ne (by omega) _ _)
  · exact (((((((bstep hB hB.size hb1).setCell (by dsimp only; omega) _).setCell (by dsimp only; omega) _).setCell (by dsimp only; omega) _).setCell (by dsimp only; omega) _).setCell (by dsimp only; omega) _).setCell (by dsimp only; omega) _)

set_option maxRecDepth 100000 in
set_option maxHeartbeats 400000 in
theorem eqRing_same (h t : Int) (c : Bool) (x : Int) (A B : Option Addr) (n ca cb : Nat) (l : List Pl) (w : World) (ha : PlsR 0 w A n l) (hb : PlsR 0 w B n l) (hn : n ≤ 1048576) :
    Calls Try.prog 93 #[rgV h t c x A n ca, rgV h t c x B n cb] w (RetBelow (.bool true) w) := by
  unfold rgV
  go_enter Try.func93, Try.ntmps93
  go_wp2_with fail
  refine calls_abs (fun W => Below w.heap.size w W) (((Below.refl _ _).alloc (Nat.le_refl _) _).alloc (by simp) _) ?_
  rintro W hB
  refine (eqPlaceS_same _ _ _ _ _ l _ (ha.below hB) (hb.below hB) hn).mono ?_
  rintro e w1 ⟨rfl, hb1⟩
  go_wp2
  go_ret
  exact .mk rfl (bstep hB hB.size hb1)

/-- What markRing does. -/
def MarkedR (N g n cap : Nat) (w : World) (e : Ending) (w' : World) : Prop :=
  e = .returned (.int .i64 (1 + 4 * n)) ∧ But g w w' ∧ PlsO N w' g n cap (marks 1 n)

/-- n places that nobody has put on. -/
def fresh (n : Nat) : List Pl := (List.range n).map fun (i : Nat) => ⟨true, (i : Int), false, 0⟩
theorem fresh_len (n : Nat) : (fresh n).length = n := by simp [fresh]
theorem fresh_at {n i : Nat} (h : i < n) : (fresh n)[i]? = some ⟨true, (i : Int), false, 0⟩ := by simp [fresh, h]

/-- No ring, and false. -/
def NoRg (w : World) (e : Ending) (w' : World) : Prop := e = .returned (.tuple #[rgV 0 0 false 0 none 0 0, .bool false]) ∧ Below w.heap.size w w'

end Go.Proofs.Ytomfaabifpndbaa
