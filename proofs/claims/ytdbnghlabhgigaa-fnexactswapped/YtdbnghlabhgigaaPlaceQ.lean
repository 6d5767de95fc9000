/-
  The law on Swapped holds: for every three places the program answers as the model. No conditions.
-/
import Derived.Test.YtdbnghlabhgigaaPlaceS
import Derived.Test.YtdbnghlabhgigaaPlaceP
namespace Go.Proofs.Ytdbnghlabhgigaa
open Go.RowKit Go.ChangeShapes Go.WideShapes Go.ChangeAt Go.Joins
set_option linter.unusedVariables false
attribute [local go_sem] OpUpon

theorem exactSwapped_any (a a1 a2 c c1 c2 : Bool) (b b1 b2 d d1 d2 : Int) (w : World) :
    Calls Try.prog 5 #[.agg #[.bool a, .int .i64 b, .bool c, .int .i64 d], .agg #[.bool a1, .int .i64 b1, .bool c1, .int .i64 d1], .agg #[.bool a2, .int .i64 b2, .bool c2, .int .i64 d2]] w (RetBelow (.bool true) w) := by
  by_cases h : a = a1 ∧ b = b1 ∧ c = c1 ∧ d = d1
  · obtain ⟨rfl, rfl, rfl, rfl⟩ := h
    exact exactSwapped_yes _ _ _ _ _ _ _ _ _
  · exact exactSwapped_no _ _ _ _ _ _ _ _ _ _ _ _ _ h

set_option maxRecDepth 100000 in
theorem fnExactSwapped_lifted (os : Os) (started : os.Started) (H : Type) (enc : TypeId × Value → H) :
    ReturnsInHanded {} Try.checked os 5 .any (Rows.fnExactSwappedSpec.pre6 enc Try.prog Try.f5 Rows.fnExactSwappedRow.domain false) (Rows.fnExactSwappedSpec.post enc Try.prog Try.f5 false true false false) := by
  refine law_lifted (C := Try.checked) (fn := Try.f5) own started (by kernel_rfl) Try.func5 laidOut Try.underlying4 rfl rfl (by kernel_rfl) (fun ds h => ?_)
    (ChangeSpec.witness6 (enc := enc) (C := Try.checked) false ⟨#[], #[.agg #[.bool false, .int .i64 0, .bool false, .int .i64 0], .agg #[.bool false, .int .i64 0, .bool false, .int .i64 0], .agg #[.bool false, .int .i64 0, .bool false, .int .i64 0]], []⟩ 8 (by kernel_rfl) (by kernel_rfl) (by kernel_rfl) (by kernel_rfl)) ?_
  · match ds, h with | [_, _, _], _ => rfl
  intro W base args ds p hval0 hA0
  have hval : ∀ (j : Nat) t v, Try.f5.params[j]? = some t → args[j]? = some v → Value.okWide Try.prog W .any base t v := hval0
  have hA : DataW.TrodAll enc Try.prog W 0 (fun _ => true) true Try.f5.params.toList args.toList ds p := hA0
  rw [Try.params5] at hA hval
  obtain ⟨v0, vs0, d0, ds0, p0, q0, hargs, rfl, rfl, h0, r0⟩ := trodAll_cons hA
  obtain ⟨v1, vs1, d1, ds1, p1, q1, rfl, rfl, rfl, h1, r1⟩ := trodAll_cons r0
  obtain ⟨v2, vs2, d2, ds2, p2, q2, rfl, rfl, rfl, h2, r2⟩ := trodAll_cons r1
  obtain ⟨rfl, rfl, rfl⟩ := trodAll_nil r2
  obtain rfl : args = #[v0, v1, v2] := by cases args; simp_all
  obtain ⟨a, c, b, d, rfl⟩ := open_place (hval 0 37 v0 rfl rfl) h0
  obtain ⟨a1, c1, b1, d1, rfl⟩ := open_place (hval 1 37 v1 rfl rfl) h1
  obtain ⟨a2, c2, b2, d2, rfl⟩ := open_place (hval 2 37 v2 rfl rfl) h2
  exact exactSwapped_any a a1 a2 c c1 c2 b b1 b2 d d1 d2 W

theorem fnExactSwapped_holds : Rows.FnExactSwappedSaid :=
  OpenClaim.holds_of_wide 5 Try.f5 rfl rfl rfl rfl rfl rfl rfl ⟨rfl, rfl, rfl, rfl, rfl⟩ rfl rfl rfl rfl rfl (by kernel_rfl) Try.func5 (by kernel_rfl)
    (of_decide_eq_true (by kernel_rfl)) (by unfold Func.isWrapper; first | (rw [if_pos (by decide +kernel)]; kernel_rfl) | (rw [if_neg (by decide +kernel)]; exact ⟨rfl, rfl⟩))
    (fun os started H enc _ => fnExactSwapped_lifted os started H enc)

end Go.Proofs.Ytdbnghlabhgigaa
