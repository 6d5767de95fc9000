/-
  The walks of NewStore and of the copies of rings, of the model.
-/
import Derived.Test.YtomfaabifpndbaaGreatStoreA
namespace Go.Proofs.YtomfaabifpndbaaGreat
set_option linter.unusedSimpArgs false
set_option linter.unusedVariables false
open Go.RowKit
attribute [local go_sem ↓] Go.wp_at_zero Go.wp_at_succ

/-- A store of the call's own is returned, and a further value. -/
def RetStV (s : St) (u : Value) (w : World) (e : Ending) (w' : World) : Prop :=
  ∃ A n cap, e = .returned (.tuple #[stV s A n cap, u]) ∧ RgsW w.heap.size w'.heap.size w' A n cap s.rs ∧ Below w.heap.size w w'

/-- The cells of the places of a row of their own, one by one. -/
theorem PlsO.news {lo : Nat} {w : World} {b n cap : Nat} {l : List Pl} (h : PlsO lo w b n cap l) : ∀ j u, (l.flatMap Pl.cs)[j]? = some u → w.cell? ((⟨b, 0, none⟩ : Addr).add j) = some u :=
  (Own.own h Pl.cs_len).cells rfl

theorem pl_one {l : List Pl} : ∀ u ∈ l.flatMap Pl.cs, u.oneCell' = true := by
  intro u hu
  obtain ⟨p, _, hp⟩ := List.mem_flatMap.1 hu
  simp [Pl.cs] at hp
  rcases hp with rfl | rfl | rfl | rfl <;> rfl

end Go.Proofs.YtomfaabifpndbaaGreat
