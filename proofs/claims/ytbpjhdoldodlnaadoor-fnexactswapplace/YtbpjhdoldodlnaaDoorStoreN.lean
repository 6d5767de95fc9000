/-
  The walk of NewStore of the model.
-/
import Derived.Test.YtbpjhdoldodlnaaDoorPrimL
namespace Go.Proofs.YtbpjhdoldodlnaaDoor
open Go.RowKit
set_option linter.unusedVariables false
attribute [local go_sem ↓] Go.wp_at_zero Go.wp_at_succ

def newStore (rd mo : Int) : St × Bool := if roundB rd && inB mo 1 16 then (⟨rd, mo, [Rg.fresh rd.toNat], 0, 0⟩, true) else (.zero, false)

/-- One ring in a new block. -/
theorem rgs_one {lo k : Nat} {V : World} {g q cap : Nat} {r : Rg} (hp : PlsO lo V g q cap r.ps) (hlo : lo ≤ V.heap.size) (hk : k = V.heap.size) :
    RgsW lo (V.alloc (.cells #[.int .i64 r.h, .int .i64 r.t, .bool r.c, .int .i64 r.x, .slice (some ⟨g, 0, none⟩) q cap] 55)).heap.size (V.alloc (.cells #[.int .i64 r.h, .int .i64 r.t, .bool r.c, .int .i64 r.x, .slice (some ⟨g, 0, none⟩) q cap] 55)) (some ⟨k, 0, none⟩) 1 1 [r] := by
  subst hk
  refine ⟨rfl, fun _ => ⟨V.heap.size, [⟨r.h, r.t, r.c, r.x, some ⟨g, 0, none⟩, q, cap⟩], rfl, by simp, ?_, fun i a ha => ?_⟩⟩
  · exact ⟨rfl, hlo, Nat.le_refl _, by unfold maxLen; omega, _, BoxAt.new _ _ _, rfl, rfl⟩
  · have hi : i = 0 := by
      have := (List.getElem?_eq_some_iff.1 ha).1
      simp at this; exact this
    subst hi
    simp at ha
    subst ha
    exact ⟨r, rfl, rfl, rfl, rfl, rfl, hp.1, fun _ => ⟨g, rfl, by have := Own.lt hp; simp; omega, hp.al _⟩⟩

end Go.Proofs.YtbpjhdoldodlnaaDoor
