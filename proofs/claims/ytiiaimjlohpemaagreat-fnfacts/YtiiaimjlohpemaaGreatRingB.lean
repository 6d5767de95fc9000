/-
 The walks of NewRing, of both sides, and of the laws' helpers on rings.
-/
import Derived.Test.YtiiaimjlohpemaaGreatRingA
import Derived.OwnWalk
namespace Go.Proofs.YtiiaimjlohpemaaGreat
set_option linter.unusedSimpArgs false
set_option linter.unusedVariables false
open Go.RowKit
attribute [local go_sem ↓] Go.wp_at_zero Go.wp_at_succ

/-- A ring's value. -/
def rgV (h t : Int) (c : Bool) (x : Int) (A : Option Addr) (n cap : Nat) : Value := .agg #[h, t, c, x, .slice A n cap]

/-- A ring of the call's own is returned. -/
def RetRg (h t : Int) (c : Bool) (x : Int) (n : Nat) (l : List Pl) (w : World) (e : Ending) (w' : World) : Prop :=
 ∃ g cap, e = .returned (rgV h t c x (some ⟨g, 0, none⟩) n cap) ∧ PlsO w.heap.size w' g n cap l ∧ Below w.heap.size w w'
/-- Likewise, and a bool. -/
def RetRgB (h t : Int) (c : Bool) (x : Int) (n : Nat) (l : List Pl) (b : Bool) (w : World) (e : Ending) (w' : World) : Prop :=
 ∃ g cap, e = .returned (.tuple #[rgV h t c x (some ⟨g, 0, none⟩) n cap, .bool b]) ∧ PlsO w.heap.size w' g n cap l ∧ Below w.heap.size w w'

/-- What markRing does. -/
def MarkedR (N g n cap : Nat) (w : World) (e : Ending) (w' : World) : Prop :=
 e = .returned (.int .i64 (1 + 4 * n)) ∧ But g w w' ∧ PlsO N w' g n cap (marks 1 n)

/-- n places that nobody has put on. -/
def fresh (n : Nat) : List Pl := (List.range n).map fun (i : Nat) => ⟨true, (i : Int), false, 0⟩
theorem fresh_len (n : Nat) : (fresh n).length = n := by simp [fresh]
theorem fresh_at {n i : Nat} (h : i < n) : (fresh n)[i]? = some ⟨true, (i : Int), false, 0⟩ := by simp [fresh, h]

/-- No ring, and false. -/
def NoRg (w : World) (e : Ending) (w' : World) : Prop := e = .returned (.tuple #[rgV 0 0 false 0 none 0 0, .bool false]) ∧ Below w.heap.size w w'

end Go.Proofs.YtiiaimjlohpemaaGreat
