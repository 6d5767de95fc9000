/-
 The law on IsResting holds: for every hand the program answers as the model. No conditions.
-/
import Derived.Test.YteeemgoomobbbaaHanL
import Derived.Test.YteeemgoomobbbaaHanO
import Derived.Test.YteeemgoomobbbaaOpen
namespace Go.Proofs.Yteeemgoomobbbaa
set_option linter.unusedSimpArgs false
set_option linter.unusedVariables false
open Go.RowKit Go.ChangeShapes Go.WideShapes Go.ChangeAt Go.Joins
set_option linter.unusedVariables false

set_option maxRecDepth 100000 in
theorem fnExactIsResting_lifted (os : Os) (started : os.Started) (H : Type) (enc : TypeId × Value → H) :
  ReturnsInHanded {} Try.checked os 3 .any (Rows.fnExactIsRestingSpec.pre6 enc Try.prog Try.f3 Rows.fnExactIsRestingRow.domain false) (Rows.fnExactIsRestingSpec.post enc Try.prog Try.f3 false true false false) := by
 refine law_lifted (C := Try.checked) (fn := Try.f3) own started (by kernel_rfl) Try.func3 laidOut Try.underlying4 rfl rfl (by kernel_rfl) (fun ds h => ?_)
  (ChangeSpec.witness6 (enc := enc) (C := Try.checked) false ⟨#[], #[.agg zH], []⟩ 8 (by kernel_rfl) (by kernel_rfl) (by kernel_rfl) (by kernel_rfl)) ?_
 · match ds, h with | [_], _ => rfl
 intro W base args ds p hval0 hA0
 have hval : ∀ (j : Nat) t v, Try.f3.params[j]? = some t → args[j]? = some v → Value.okWide Try.prog W .any base t v := hval0
 have hA : DataW.TrodAll enc Try.prog W 0 (fun _ => true) true Try.f3.params.toList args.toList ds p := hA0
 rw [Try.params3] at hA hval
 obtain ⟨v0, vs0, d0, ds0, p0, q0, hargs, rfl, rfl, h0, r0⟩ := trodAll_cons hA
 obtain ⟨rfl, rfl, rfl⟩ := trodAll_nil r0
 obtain rfl : args = #[v0] := by cases args; simp_all
 obtain ⟨h0h, rfl⟩ := open_hand (hval 0 25 v0 rfl rfl) h0
 exact exactIsResting_any h0h W

theorem fnExactIsResting_holds : Rows.FnExactIsRestingSaid :=
 OpenClaim.holds_of_wide 3 Try.f3 rfl rfl rfl rfl rfl rfl rfl ⟨rfl, rfl, rfl, rfl, rfl⟩ rfl rfl rfl rfl rfl (by kernel_rfl) Try.func3 (by kernel_rfl)
  (of_decide_eq_true (by kernel_rfl)) (by unfold Func.isWrapper; first | (rw [if_pos (by decide +kernel)]; kernel_rfl) | (rw [if_neg (by decide +kernel)]; exact ⟨rfl, rfl⟩))
  (fun os started H enc _ => fnExactIsResting_lifted os started H enc)

end Go.Proofs.Yteeemgoomobbbaa
