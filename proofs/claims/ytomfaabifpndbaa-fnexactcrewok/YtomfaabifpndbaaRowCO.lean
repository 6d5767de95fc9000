/-
  The law on CrewOk holds: for every crew the program answers as the model, and the crew stays as it was. No conditions.
-/
import Derived.Deep.Light
import Derived.Test.YtomfaabifpndbaaCrewI
import Derived.Test.YtomfaabifpndbaaCrewC
import Derived.Test.YtomfaabifpndbaaCrewL
import Derived.Test.YtomfaabifpndbaaCrewO
namespace Go.Proofs.Ytomfaabifpndbaa
set_option linter.unusedSimpArgs false
set_option linter.unusedVariables false
open Go.RowKit Go.ChangeShapes Go.WideShapes Go.ChangeAt Go.Joins
set_option linter.unusedVariables false
attribute [local go_sem] OpUpon

attribute [local go_sem ↓] Go.wp_at_zero Go.wp_at_succ

def lcOV (c : Cr) (sA hA jA bA eA sA' hA' jA' bA' eA' : Option Addr) (sN hN jN bN eN sK hK jK bK eK sK' hK' jK' bK' eK' N X : Nat) : List Sl := [.v (.agg #[.int .i64 c.st.rd, .int .i64 c.st.mo, .slice sA' sN sK', .int .i64 c.st.fi, .int .i64 c.st.la, .slice hA' hN hK', .slice jA' jN jK', .slice bA' bN bK', .int .i64 c.ck, .slice eA' eN eK']),
  .v (.agg #[.int .i64 c.st.rd, .int .i64 c.st.mo, .slice sA sN sK, .int .i64 c.st.fi, .int .i64 c.st.la, .slice hA hN hK, .slice jA jN jK, .slice bA bN bK, .int .i64 c.ck, .slice eA eN eK]),
  .e fun σ w => ∃ (y2 : CrL), σ 2 = .agg #[.int .i64 c.st.rd, .int .i64 c.st.mo, .slice y2.s.A y2.s.n y2.s.cap, .int .i64 c.st.fi, .int .i64 c.st.la, .slice y2.h.A y2.h.n y2.h.cap, .slice y2.j.A y2.j.n y2.j.cap, .slice y2.b.A y2.b.n y2.b.cap, .int .i64 c.ck, .slice y2.e.A y2.e.n y2.e.cap] ∧ CrR w c y2,
  .v (.bool true),
  .v (.bool false)]

set_option maxRecDepth 100000 in
set_option maxHeartbeats 4000000 in
theorem exactCrewOk_any (c : Cr) (y : CrL) (w : World) (hr : CrR w c y) (hm : CrMx y) :
    Calls Try.prog 4 #[crV c y] w (RetBelow (.bool true) w) := by
  obtain ⟨⟨sA, sN, sK⟩, ⟨hA, hN, hK⟩, ⟨jA, jN, jK⟩, ⟨bA, bN, bK⟩, ⟨eA, eN, eK⟩⟩ := y
  have HZ := Lib.hid (fun W hB => szCrew_any c (⟨⟨sA, sN, sK⟩, ⟨hA, hN, hK⟩, ⟨jA, jN, jK⟩, ⟨bA, bN, bK⟩, ⟨eA, eN, eK⟩⟩ : CrL) 1048576 W (hr.below (w' := W) hB) hm (by omega) (by omega))
  have HT0 := Lib.hid (fun hf W hB => toCrew_any c (⟨⟨sA, sN, sK⟩, ⟨hA, hN, hK⟩, ⟨jA, jN, jK⟩, ⟨bA, bN, bK⟩, ⟨eA, eN, eK⟩⟩ : CrL) W (hr.below (w' := W) hB) hf)
  have e1 := Lib.hid (And.intro hr.s.1 (And.intro hr.h.1 (And.intro hr.j.1 (And.intro hr.b.1 hr.e.1))))
  clear hr hm
  unfold crV
  dsimp only
  go_enter Try.func4, Try.ntmps4
  go_wp2_with fail
  refine calls_abs (fun W => Below w.heap.size w W ∧ BoxAt W w.heap.size #[.int .i64 c.st.rd, .int .i64 c.st.mo, .slice sA sN sK, .int .i64 c.st.fi, .int .i64 c.st.la, .slice hA hN hK, .slice jA jN jK, .slice bA bN bK, .int .i64 c.ck, .slice eA eN eK] 44) ⟨(Below.refl _ _).alloc (Nat.le_refl _) _, BoxAt.new _ _ _⟩ ?_
  rintro W0 ⟨hB, hx⟩
  refine (HZ.out _ hB).mono ?_
  rintro e w1 ⟨z, rfl, hz, hb⟩
  replace hx := hx.below hb hx.lt
  replace hB := bstep hB hB.size hb
  clear hb
  rcases hz with rfl | ⟨hz, hf⟩
  · go_wp2
    go_ret
    exact .mk rfl hB
  have HT := Lib.hid (fun W hB => HT0.out hf W hB)
  have HF := Lib.hid hf
  clear hf HT0 HZ
  have kx := hx.cell
  go_wp2_with fail
  clear kx
  refine (HT.out _ hB).mono ?_
  rintro e w2 ⟨y1, rfl, hW1, hb⟩
  replace hx := hx.below hb hx.lt
  replace hB := bstep hB hB.size hb
  clear hb
  go_wp2_with fail
  refine (screwOk_any c y1 _ _ _ hW1 (Nat.le_refl _) HF.out).mono ?_
  rintro e w3 ⟨rfl, hb⟩
  replace hx := hx.below hb hx.lt
  replace hB := bstep hB hB.size hb
  clear hb hW1
  obtain ⟨o, ho⟩ : ∃ o, crOk c = o := ⟨_, rfl⟩
  rw [ho]
  have HO := Lib.hid ho; clear ho
  have kx := hx.cell
  go_wp2_with fail
  clear kx
  refine (HT.out _ hB).mono ?_
  rintro e w4 ⟨⟨⟨sA', sN', sK'⟩, ⟨hA', hN', hK'⟩, ⟨jA', jN', jK'⟩, ⟨bA', bN', bK'⟩, ⟨eA', eN', eK'⟩⟩, rfl, hW2, hb⟩
  replace hx := hx.below hb hx.lt
  replace hB := bstep hB hB.size hb
  clear hb
  obtain rfl : sN = sN' := e1.out.1.symm.trans hW2.s.1
  obtain rfl : hN = hN' := e1.out.2.1.symm.trans hW2.h.1
  obtain rfl : jN = jN' := e1.out.2.2.1.symm.trans hW2.j.len
  obtain rfl : bN = bN' := e1.out.2.2.2.1.symm.trans hW2.b.1
  obtain rfl : eN = eN' := e1.out.2.2.2.2.symm.trans hW2.e.1
  clear e1
  unfold crV
  dsimp only
  go_wp2_with fail
  refine calls_abs (fun W => Below w.heap.size w W ∧ BoxAt W w.heap.size #[.int .i64 c.st.rd, .int .i64 c.st.mo, .slice sA sN sK, .int .i64 c.st.fi, .int .i64 c.st.la, .slice hA hN hK, .slice jA jN jK, .slice bA bN bK, .int .i64 c.ck, .slice eA eN eK] 44 ∧ BoxAt W w4.heap.size #[.int .i64 c.st.rd, .int .i64 c.st.mo, .slice sA' sN sK', .int .i64 c.st.fi, .int .i64 c.st.la, .slice hA' hN hK', .slice jA' jN jK', .slice bA' bN bK', .int .i64 c.ck, .slice eA' eN eK'] 53 ∧ CrW w3.heap.size w4.heap.size W c (⟨⟨sA', sN, sK'⟩, ⟨hA', hN, hK'⟩, ⟨jA', jN, jK'⟩, ⟨bA', bN, bK'⟩, ⟨eA', eN, eK'⟩⟩ : CrL) ∧ w4.heap.size ≤ W.heap.size) ⟨hB.alloc hB.size _, hx.alloc _, BoxAt.new _ _ _, hW2.below ((Below.refl _ _).alloc (Nat.le_refl _) _) (Nat.le_refl _), by simp⟩ ?_
  clear hB hx hW2
  rintro W5 ⟨hB, hx, hy, hW2, hh⟩
  refine (icrewOk_any c (⟨⟨sA', sN, sK'⟩, ⟨hA', hN, hK'⟩, ⟨jA', jN, jK'⟩, ⟨bA', bN, bK'⟩, ⟨eA', eN, eK'⟩⟩ : CrL) _ _ _ hW2 hh HF.out).mono ?_
  rintro e w5 ⟨rfl, hb⟩
  replace hx := hx.below hb hx.lt
  replace hy := hy.below hb hy.lt
  have hQ := (hW2.below hb hh).r
  replace hB := bstep hB hB.size hb
  clear hb hW2
  rw [HO.out]
  generalize w4.heap.size = X at *
  go_upto_region 10 with fail
  refine wp_region2v (fun w w' => Below w.heap.size w w') (fun _ _ h => h.size) (fun _ => Below.refl _ _) (fun L W' => Below w.heap.size w W' ∧ BoxAt W' w.heap.size #[.int .i64 c.st.rd, .int .i64 c.st.mo, .slice sA sN sK, .int .i64 c.st.fi, .int .i64 c.st.la, .slice hA hN hK, .slice jA jN jK, .slice bA bN bK, .int .i64 c.ck, .slice eA eN eK] 44 ∧ BoxAt W' X #[.int .i64 c.st.rd, .int .i64 c.st.mo, .slice sA' sN sK', .int .i64 c.st.fi, .int .i64 c.st.la, .slice hA' hN hK', .slice jA' jN jK', .slice bA' bN bK', .int .i64 c.ck, .slice eA' eN eK'] 53 ∧ CrR W' c (⟨⟨sA', sN, sK'⟩, ⟨hA', hN, hK'⟩, ⟨jA', jN, jK'⟩, ⟨bA', bN, bK'⟩, ⟨eA', eN, eK'⟩⟩ : CrL)) (lcOV c sA hA jA bA eA sA' hA' jA' bA' eA' sN hN jN bN eN sK hK jK bK eK sK' hK' jK' bK' eK' w.heap.size X) (fun _ => 0) [] (by kernel_rfl) (by kernel_rfl) ?_ ?_ ?_
    (.still rfl ?a0 <| .still rfl ?a1 <| .grow rfl ?a2 <| .grow rfl ?a3 <| .still rfl ?a4 <| .nil) ?_ ?_
  · exact ⟨fun _ _ _ h ⟨y2, e, hp⟩ => ⟨y2, (h 2 (List.mem_singleton.2 rfl)).symm.trans e, hp⟩, trivial⟩
  · exact ⟨fun σ w w' hb ⟨y2, e, hp⟩ => ⟨y2, e, hp.below hb⟩, trivial⟩
  · exact ⟨hB.drew, hx, hy, ⟨hQ.s, hQ.h, hQ.j, hQ.b, hQ.e⟩⟩
  case a0 =>
    go_light
    intro L σ W' hcl hL hC hw
    have kyy := hC.2.2.1.cell
    clear hw hcl hL hC
    refine OpGoes.step fun K hK => ?_
    unfold OpGoes
    go_simp
    exact hK _ _ ⟨rfl, rfl⟩
  case a1 =>
    go_light
    intro L σ W' hcl hL hC hw
    have kxx := hC.2.1.cell
    clear hw hcl hL hC
    refine OpGoes.step fun K hK => ?_
    unfold OpGoes
    go_simp
    exact hK _ _ ⟨rfl, rfl⟩
  case a4 =>
    go_light
    intro L σ W' hcl hL hC hw
    have e3 := wV hw 3 rfl
    clear hw hcl hL hC
    refine OpGoes.step fun K hK => ?_
    unfold OpGoes
    go_simp
    exact hK _ _ ⟨rfl, rfl⟩
  case a2 =>
    go_light
    intro L σ W' hcl hL hC hw
    have e1 := wV hw 1 rfl
    clear hw
    have HC := Lib.hid hC
    clear hC
    clear hcl hL
    refine OpGoes.step fun K hK => ?_
    unfold OpGoes
    go_simp
    obtain ⟨hB, hx, hy, hQ⟩ := HC.out
    refine (HT.out _ hB).mono ?_
    rintro e w1 ⟨y2, rfl, hW2, hb1⟩
    exact ⟨_, rfl, hK _ _ ⟨⟨bstep hB hB.size hb1, hx.below hb1 hx.lt, hy.below hb1 hy.lt, hQ.below hb1⟩, ⟨y2, rfl, hW2.r⟩, hb1⟩⟩
  case a3 =>
    go_light
    intro L σ W' hcl hL hC hw
    have e0 := wV hw 0 rfl
    obtain ⟨y2, e2, hp2⟩ := wE hw 2 rfl
    clear hw
    have HC := Lib.hid hC
    clear hC
    clear hcl hL
    refine OpGoes.step fun K hK => ?_
    unfold OpGoes
    go_simp
    obtain ⟨hB, hx, hy, hQ⟩ := HC.out
    refine (eqCrew_same c (⟨⟨sA', sN, sK'⟩, ⟨hA', hN, hK'⟩, ⟨jA', jN, jK'⟩, ⟨bA', bN, bK'⟩, ⟨eA', eN, eK'⟩⟩ : CrL) y2 _ hQ hp2 HF.out).mono ?_
    rintro e w1 ⟨rfl, hb1⟩
    exact ⟨_, rfl, hK _ _ ⟨⟨bstep hB hB.size hb1, hx.below hb1 hx.lt, hy.below hb1 hy.lt, hQ.below hb1⟩, rfl, hb1⟩⟩
  · intro L L' W' hLL hC
    obtain ⟨hB, hx, hy, hQ⟩ := hC
    exact ⟨hB, hx, hy, hQ⟩
  · intro σ L W' hall hC hRR
    obtain ⟨hB, hx, hy, hQ⟩ := hC
    have e4 := dV hRR 4 rfl
    clear hRR
    simp only [lexAll]
    go_simp
    go_wp2
    go_ret
    exact .mk rfl hB

end Go.Proofs.Ytomfaabifpndbaa

namespace Go.Proofs.Ytomfaabifpndbaa
set_option linter.unusedSimpArgs false
set_option linter.unusedVariables false
open Go.RowKit Go.ChangeShapes Go.WideShapes Go.ChangeAt Go.Joins
set_option linter.unusedVariables false

set_option maxRecDepth 100000 in
theorem fnExactCrewOk_lifted (os : Os) (started : os.Started) (H : Type) (enc : TypeId × Value → H) :
    ReturnsInHanded {} Try.checked os 4 .any (Rows.fnExactCrewOkSpec.pre6 enc Try.prog Try.f4 Rows.fnExactCrewOkRow.domain false) (Rows.fnExactCrewOkSpec.post enc Try.prog Try.f4 false true false false) := by
  refine law_lifted (C := Try.checked) (fn := Try.f4) own started (by kernel_rfl) Try.func4 laidOut Try.underlying4 rfl rfl (by kernel_rfl) (fun ds h => ?_)
    (ChangeSpec.witness6 (enc := enc) (C := Try.checked) false ⟨#[], #[.agg #[.int .i64 0, .int .i64 0, .slice none 0 0, .int .i64 0, .int .i64 0, .slice none 0 0, .slice none 0 0, .slice none 0 0, .int .i64 0, .slice none 0 0]], []⟩ 8 (by kernel_rfl) (by kernel_rfl) (by kernel_rfl) (by kernel_rfl)) ?_
  · match ds, h with | [_], _ => rfl
  intro W base args ds p hval0 hA0
  have hval : ∀ (j : Nat) t v, Try.f4.params[j]? = some t → args[j]? = some v → Value.okWide Try.prog W .any base t v := hval0
  have hA : DataW.TrodAll enc Try.prog W 0 (fun _ => true) true Try.f4.params.toList args.toList ds p := hA0
  rw [Try.params4] at hA hval
  obtain ⟨v0, vs0, d0, ds0, p0, q0, hargs, rfl, rfl, h0, r0⟩ := trodAll_cons hA
  obtain ⟨rfl, rfl, rfl⟩ := trodAll_nil r0
  obtain rfl : args = #[v0] := by cases args; simp_all
  obtain ⟨c0, y0, rfl, hm0, hl0⟩ := open_crew (hval 0 44 v0 rfl rfl) h0
  exact exactCrewOk_any c0 y0 W hl0 hm0

theorem fnExactCrewOk_holds : Rows.FnExactCrewOkSaid :=
  OpenClaim.holds_of_wide 4 Try.f4 rfl rfl rfl rfl rfl rfl rfl ⟨rfl, rfl, rfl, rfl, rfl⟩ rfl rfl rfl rfl rfl (by kernel_rfl) Try.func4 (by kernel_rfl)
    (of_decide_eq_true (by kernel_rfl)) (by unfold Func.isWrapper; first | (rw [if_pos (by decide +kernel)]; kernel_rfl) | (rw [if_neg (by decide +kernel)]; exact ⟨rfl, rfl⟩))
    (fun os started H enc _ => fnExactCrewOk_lifted os started H enc)

end Go.Proofs.Ytomfaabifpndbaa

