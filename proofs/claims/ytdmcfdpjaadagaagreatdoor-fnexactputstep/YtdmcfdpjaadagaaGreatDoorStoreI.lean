/-
 The walk of NewStore of the model.
-/
import Derived.Test.YtdmcfdpjaadagaaGreatDoorPrimL
import Derived.Test.YtdmcfdpjaadagaaGreatDoorLawC
namespace Go.Proofs.YtdmcfdpjaadagaaGreatDoor
set_option linter.unusedSimpArgs false
set_option linter.unusedVariables false
open Go.RowKit
set_option linter.unusedVariables false
attribute [local go_sem ↓] Go.wp_at_zero Go.wp_at_succ

def newStore (rd mo : Int) : St × Bool := if roundB rd && inB mo 1 16 then (⟨rd, mo, [Rg.fresh rd.toNat], 0, 0⟩, true) else (.zero, false)

/-- One ring in a new block. -/
theorem rgs_one {lo k : Nat} {V : World} {g q cap : Nat} {r : Rg} (hp : PlsO lo V g q cap r.ps) (hlo : lo ≤ V.heap.size) (hk : k = V.heap.size) :
  RgsW lo (V.alloc (.cells #[.int .i64 r.h, .int .i64 r.t, .bool r.c, .int .i64 r.x, .slice (some ⟨g, 0, none⟩) q cap] 86)).heap.size (V.alloc (.cells #[.int .i64 r.h, .int .i64 r.t, .bool r.c, .int .i64 r.x, .slice (some ⟨g, 0, none⟩) q cap] 86)) (some ⟨k, 0, none⟩) 1 1 [r] := by
 subst hk
 refine ⟨rfl, fun _ => ⟨V.heap.size, [⟨r.h, r.t, r.c, r.x, some ⟨g, 0, none⟩, q, cap⟩], rfl, by simp, ?_, fun i a ha => ?_⟩⟩
 · exact ⟨rfl, hlo, Nat.le_refl _, by unfold maxLen; omega, _, BoxAt.new _ _ _, rfl, rfl⟩
 ·
  have hi : i = 0 := by
   have := (List.getElem?_eq_some_iff.1 ha).1
   simp at this; exact this
  subst hi
  simp at ha
  subst ha
  exact ⟨r, rfl, rfl, rfl, rfl, rfl, hp.1, fun _ => ⟨g, rfl, by have := Own.lt hp; simp; omega, hp.al _⟩⟩

end Go.Proofs.YtdmcfdpjaadagaaGreatDoor

/-
 The walks of NewStore of the program, and of its small functions on stores.
-/
namespace Go.Proofs.YtdmcfdpjaadagaaGreatDoor
set_option linter.unusedSimpArgs false
set_option linter.unusedVariables false
open Go.RowKit
set_option linter.unusedVariables false
attribute [local go_sem ↓] Go.wp_at_zero Go.wp_at_succ

set_option maxHeartbeats 400000 in
theorem isMost_any (z : Int) (w : World) : Calls Tryz.prog 100 #[.int .i64 z] w (Quiet1 (.bool (inB z 1 16)) w) := by
 go_enter Tryz.func100, Tryz.ntmps100
 go_wp2
 all_goals
  go_ret
  exact ⟨by simp [inB, *] <;> omega, rfl⟩

/-- A store of the call's own and a bool are returned. -/
def RetSD (q : St × Bool) (w : World) (e : Ending) (w' : World) : Prop :=
 ∃ A n cap, e = .returned (.tuple #[stV q.1 A n cap, .bool q.2]) ∧ RgsD w.heap.size w'.heap.size w' A n cap q.1.rs ∧ Below w.heap.size w w'

/-- One ring in a new block. -/
theorem rgd_one {lo k : Nat} {V : World} {g q cap : Nat} {r : Rg} (hp : PlsO lo V g q cap r.ps) (hlo : lo ≤ V.heap.size) (hk : k = V.heap.size) :
  RgsD lo (V.alloc (.cells #[.int .i64 r.h, .int .i64 r.t, .bool r.c, .int .i64 r.x, .slice (some ⟨g, 0, none⟩) q cap] 86)).heap.size (V.alloc (.cells #[.int .i64 r.h, .int .i64 r.t, .bool r.c, .int .i64 r.x, .slice (some ⟨g, 0, none⟩) q cap] 86)) (some ⟨k, 0, none⟩) 1 1 [r] := by
 subst hk
 have one : ∀ (i : Nat) (a : Rw), [(⟨r.h, r.t, r.c, r.x, some ⟨g, 0, none⟩, q, cap⟩ : Rw)][i]? = some a → i = 0 ∧ a = ⟨r.h, r.t, r.c, r.x, some ⟨g, 0, none⟩, q, cap⟩ := fun i a ha => by
  have hi : i = 0 := by
   have := (List.getElem?_eq_some_iff.1 ha).1
   simp at this; exact this
  subst hi
  simp at ha
  exact ⟨rfl, ha.symm⟩
 refine ⟨rfl, fun _ => ⟨V.heap.size, [⟨r.h, r.t, r.c, r.x, some ⟨g, 0, none⟩, q, cap⟩], rfl, by simp, ?_, fun i a ha => ?_, fun i j a b hij ha hb => ?_⟩⟩
 · exact ⟨rfl, hlo, Nat.le_refl _, by unfold maxLen; omega, _, BoxAt.new _ _ _, rfl, rfl⟩
 ·
  obtain ⟨rfl, rfl⟩ := one i a ha
  exact ⟨r, rfl, rfl, rfl, rfl, rfl, g, rfl, by have := Own.lt hp; simp; omega, hp.al _⟩
 ·
  have h1 := (one i a ha).1
  have h2 := (one j b hb).1
  omega

end Go.Proofs.YtdmcfdpjaadagaaGreatDoor

