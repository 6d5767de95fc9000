/-
 The law on Busy holds: for every list of events the program answers as the model, and the list stays as it was. No conditions.
-/
import Derived.Test.YtghgfbncijfocaaLawFa
import Derived.Test.YtghgfbncijfocaaOpenG
namespace Go.Proofs.Ytghgfbncijfocaa
set_option linter.unusedSimpArgs false
set_option linter.unusedVariables false
open Go.RowKit Go.ChangeShapes Go.WideShapes Go.ChangeAt Go.Joins
set_option linter.unusedVariables false

set_option maxRecDepth 100000 in
theorem fnExactBusy_lifted (os : Os) (started : os.Started) (H : Type) (enc : TypeId × Value → H) :
  ReturnsInHanded {} Try.checked os 6 .any (Rows.fnExactBusySpec.pre6 enc Try.prog Try.f6 Rows.fnExactBusyRow.domain false) (Rows.fnExactBusySpec.post enc Try.prog Try.f6 false true false false) := by
 refine law_lifted (C := Try.checked) (fn := Try.f6) own started (by kernel_rfl) Try.func6 laidOut Try.underlying4 rfl rfl (by kernel_rfl) (fun ds h => ?_)
  (ChangeSpec.witness6 (enc := enc) (C := Try.checked) false ⟨#[], #[.slice none 0 0], []⟩ 8 (by kernel_rfl) (by kernel_rfl) (by kernel_rfl) (by kernel_rfl)) ?_
 · match ds, h with | [_], _ => rfl
 intro W base args ds p hval0 hA0
 have hval : ∀ (j : Nat) t v, Try.f6.params[j]? = some t → args[j]? = some v → Value.okWide Try.prog W .any base t v := hval0
 have hA : DataW.TrodAll enc Try.prog W 0 (fun _ => true) true Try.f6.params.toList args.toList ds p := hA0
 rw [Try.params6] at hA hval
 obtain ⟨v0, vs0, d0, ds0, p0, q0, hargs, rfl, rfl, h0, r0⟩ := trodAll_cons hA
 obtain ⟨rfl, rfl, rfl⟩ := trodAll_nil r0
 obtain rfl : args = #[v0] := by cases args; simp_all
 obtain ⟨A0, n0, cap0, l0, rfl, hm0, hl0⟩ := open_events (hval 0 22 v0 rfl rfl) h0
 exact exactBusy_any l0 A0 n0 cap0 W hl0 hm0

theorem fnExactBusy_holds : Rows.FnExactBusySaid :=
 OpenClaim.holds_of_wide 6 Try.f6 rfl rfl rfl rfl rfl rfl rfl ⟨rfl, rfl, rfl, rfl, rfl⟩ rfl rfl rfl rfl rfl (by kernel_rfl) Try.func6 (by kernel_rfl)
  (of_decide_eq_true (by kernel_rfl)) (by unfold Func.isWrapper; first | (rw [if_pos (by decide +kernel)]; kernel_rfl) | (rw [if_neg (by decide +kernel)]; exact ⟨rfl, rfl⟩))
  (fun os started H enc _ => fnExactBusy_lifted os started H enc)

end Go.Proofs.Ytghgfbncijfocaa
