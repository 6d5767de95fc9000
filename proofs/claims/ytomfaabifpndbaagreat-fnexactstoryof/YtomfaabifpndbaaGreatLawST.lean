/-
  The walk of the law on StoryOf.
-/
import Derived.Test.YtomfaabifpndbaaGreatStoI
import Derived.Test.YtomfaabifpndbaaGreatCrewM
import Derived.Deep.Light
namespace Go.Proofs.YtomfaabifpndbaaGreat
set_option linter.unusedSimpArgs false
set_option linter.unusedVariables false
open Go.RowKit Go.ChangeShapes Go.WideShapes Go.ChangeAt Go.Joins
set_option linter.unusedVariables false
attribute [local go_sem] OpUpon

attribute [local go_sem ↓] Go.wp_at_zero Go.wp_at_succ

theorem storyOf_len (c : Cr) (h : CrFit c) : (storyOf c).length ≤ 1048576 := by
  unfold storyOf
  cases crOk c
  · simp
  · exact h.e

def lsOV (c : Cr) (sA hA jA bA eA sA' hA' jA' bA' eA' : Option Addr) (sN hN jN bN eN sK hK jK bK eK sK' hK' jK' bK' eK' N X : Nat) : List Sl := [.v (.agg #[.int .i64 c.st.rd, .int .i64 c.st.mo, .slice sA' sN sK', .int .i64 c.st.fi, .int .i64 c.st.la, .slice hA' hN hK', .slice jA' jN jK', .slice bA' bN bK', .int .i64 c.ck, .slice eA' eN eK']),
  .v (.agg #[.int .i64 c.st.rd, .int .i64 c.st.mo, .slice sA sN sK, .int .i64 c.st.fi, .int .i64 c.st.la, .slice hA hN hK, .slice jA jN jK, .slice bA bN bK, .int .i64 c.ck, .slice eA eN eK]),
  .e fun σ w => ∃ (y2 : CrL), σ 2 = .agg #[.int .i64 c.st.rd, .int .i64 c.st.mo, .slice y2.s.A y2.s.n y2.s.cap, .int .i64 c.st.fi, .int .i64 c.st.la, .slice y2.h.A y2.h.n y2.h.cap, .slice y2.j.A y2.j.n y2.j.cap, .slice y2.b.A y2.b.n y2.b.cap, .int .i64 c.ck, .slice y2.e.A y2.e.n y2.e.cap] ∧ CrR w c y2,
  .v (.bool true),
  .v (.bool false)]

set_option maxRecDepth 100000 in
set_option maxHeartbeats 8000000 in
theorem exactStoryOf_any (c : Cr) (y : CrL) (w : World) (hr : CrR w c y) (hm : CrMx y) :
    Calls Tryz.prog 4 #[crV c y] w (RetBelow (.bool true) w) := by
  obtain ⟨⟨sA, sN, sK⟩, ⟨hA, hN, hK⟩, ⟨jA, jN, jK⟩, ⟨bA, bN, bK⟩, ⟨eA, eN, eK⟩⟩ := y
  have HZ := Lib.hid (fun W hB => szCrew_d c (⟨⟨sA, sN, sK⟩, ⟨hA, hN, hK⟩, ⟨jA, jN, jK⟩, ⟨bA, bN, bK⟩, ⟨eA, eN, eK⟩⟩ : CrL) 1048576 W (hr.below (w' := W) hB) hm (by omega) (by omega))
  have HT0 := Lib.hid (fun hf W hB => toCrew_z c (⟨⟨sA, sN, sK⟩, ⟨hA, hN, hK⟩, ⟨jA, jN, jK⟩, ⟨bA, bN, bK⟩, ⟨eA, eN, eK⟩⟩ : CrL) W (hr.below (w' := W) hB) hf)
  have e1 := Lib.hid (And.intro hr.s.1 (And.intro hr.h.1 (And.intro hr.j.1 (And.intro hr.b.1 hr.e.1))))
  clear hr hm
  unfold crV
  dsimp only
  go_enter Tryz.func4, Tryz.ntmps4
  go_wp2_with fail
  refine calls_abs (fun W => Below w.heap.size w W ∧ BoxAt W w.heap.size #[.int .i64 c.st.rd, .int .i64 c.st.mo, .slice sA sN sK, .int .i64 c.st.fi, .int .i64 c.st.la, .slice hA hN hK, .slice jA jN jK, .slice bA bN bK, .int .i64 c.ck, .slice eA eN eK] 45) ⟨(Below.refl _ _).alloc (Nat.le_refl _) _, BoxAt.new _ _ _⟩ ?_
  rintro W0 ⟨hB, hx⟩
  have hw0 : w.heap.size < W0.heap.size := hx.lt
  refine (HZ.out _ hB).mono ?_
  rintro e w1 ⟨z, rfl, hz, hb⟩
  have l1 := hb.size
  replace hx := hx.below hb hx.lt
  replace hB := bstep hB hB.size hb
  clear hb
  rcases hz with rfl | ⟨hz, hf, hs⟩
  · go_wp2
    go_ret
    exact .mk rfl hB
  have HT := Lib.hid (fun W hB => HT0.out hf W hB)
  have HF := Lib.hid hf
  have HS := Lib.hid hs
  obtain ⟨V, hV0⟩ : ∃ V, storyOf c = V := ⟨_, rfl⟩
  have hVn : V.length ≤ 1048576 := by rw [← hV0]; exact storyOf_len c hf
  have HSO := Lib.hid (fun y lo hi W hW hh => by have h1 := sstoryOf_any c y lo hi W hW hh hf; rw [hV0] at h1; exact h1)
  have HIO := Lib.hid (fun y lo hi W hW hh => by have h1 := istoryOf_any c y lo hi W hW hh hf; rw [hV0] at h1; exact h1)
  clear hf hs HT0 HZ hV0
  have khx := hx.cell
  go_wp2_with fail
  clear khx
  refine (HT.out _ hB).mono ?_
  rintro e w2 ⟨y1, a1, a2, a3, a4, rfl, hW1, hb⟩
  have l2 := hb.size
  replace hx := hx.below hb hx.lt
  replace hB := bstep hB hB.size hb
  clear hb
  have khx := hx.cell
  go_wp2_with fail
  clear khx
  refine (HSO.out y1 _ _ _ hW1.toW (Nat.le_refl _)).mono ?_
  rintro e w3 ⟨WA, wc, rfl, hV, hb⟩
  have l3 := hb.size
  replace hx := hx.below hb hx.lt
  replace hB := bstep hB hB.size hb
  clear hb
  clear hW1
  have khx := hx.cell
  go_wp2_with fail
  clear khx
  refine (HT.out _ hB).mono ?_
  rintro e w4 ⟨⟨⟨sA', sN', sK'⟩, ⟨hA', hN', hK'⟩, ⟨jA', jN', jK'⟩, ⟨bA', bN', bK'⟩, ⟨eA', eN', eK'⟩⟩, m1, m2, m3, m4, rfl, hZ, hb⟩
  have l4 := hb.size
  replace hx := hx.below hb hx.lt
  replace hV := SlW.below hV hb (by omega)
  replace hB := bstep hB hB.size hb
  clear hb
  obtain rfl : sN = sN' := e1.out.1.symm.trans hZ.s.1
  obtain rfl : hN = hN' := e1.out.2.1.symm.trans hZ.h.1
  obtain rfl : jN = jN' := e1.out.2.2.1.symm.trans hZ.j.toW.len
  obtain rfl : bN = bN' := e1.out.2.2.2.1.symm.trans hZ.b.1
  obtain rfl : eN = eN' := e1.out.2.2.2.2.symm.trans hZ.e.1
  clear e1
  unfold crV
  dsimp only
  obtain ⟨loV, hiV, hhV, hoV, hV1⟩ : ∃ lo hi, hi ≤ w3.heap.size ∧ w.heap.size ≤ lo ∧ EvsW lo hi w4 WA V.length wc V := ⟨_, _, by omega, by have := hB.size; omega, hV⟩
  clear hV
  obtain ⟨m0, hm0, hmV, hZ0⟩ : ∃ m0, w.heap.size < m0 ∧ hiV ≤ m0 ∧ CrZ w4 c (⟨⟨sA', sN, sK'⟩, ⟨hA', hN, hK'⟩, ⟨jA', jN, jK'⟩, ⟨bA', bN, bK'⟩, ⟨eA', eN, eK'⟩⟩ : CrL) m0 m1 m2 m3 m4 w4.heap.size := ⟨w3.heap.size, by have := hx.lt; omega, hhV, hZ⟩
  clear hZ
  go_wp2_with fail
  refine calls_abs (fun W => Below w.heap.size w W ∧ BoxAt W w.heap.size #[.int .i64 c.st.rd, .int .i64 c.st.mo, .slice sA sN sK, .int .i64 c.st.fi, .int .i64 c.st.la, .slice hA hN hK, .slice jA jN jK, .slice bA bN bK, .int .i64 c.ck, .slice eA eN eK] 45 ∧ BoxAt W w4.heap.size #[.int .i64 c.st.rd, .int .i64 c.st.mo, .slice sA' sN sK', .int .i64 c.st.fi, .int .i64 c.st.la, .slice hA' hN hK', .slice jA' jN jK', .slice bA' bN bK', .int .i64 c.ck, .slice eA' eN eK'] 31 ∧ CrZ W c (⟨⟨sA', sN, sK'⟩, ⟨hA', hN, hK'⟩, ⟨jA', jN, jK'⟩, ⟨bA', bN, bK'⟩, ⟨eA', eN, eK'⟩⟩ : CrL) m0 m1 m2 m3 m4 w4.heap.size ∧ EvsW loV hiV W WA V.length wc V) ⟨hB.alloc hB.size _, hx.alloc _, BoxAt.new _ _ _, hZ0.below ((Below.refl _ _).alloc (Nat.le_refl _) _) (Nat.le_refl _), SlW.al hV1 (by omega) _⟩ ?_
  clear hB hx hZ0 hV1
  rintro W5 ⟨hB, hx, hy, hZ, hV⟩
  have hl5 := hy.lt
  generalize w4.heap.size = X at *
  have hm05 : m0 ≤ X := by have a := hZ.k0; have b := hZ.k1; have c := hZ.k2; have d := hZ.k3; have e := hZ.k4; omega
  refine (HIO.out (⟨⟨sA', sN, sK'⟩, ⟨hA', hN, hK'⟩, ⟨jA', jN, jK'⟩, ⟨bA', bN, bK'⟩, ⟨eA', eN, eK'⟩⟩ : CrL) _ _ _ hZ.toW (by omega)).mono ?_
  rintro e w5 ⟨GA, gc, rfl, hG, hb⟩
  have l5 := hb.size
  replace hx := hx.below hb hx.lt
  replace hy := hy.below hb hy.lt
  replace hV := SlW.below hV hb (by omega)
  replace hZ := hZ.below hb (by omega)
  replace hB := bstep hB hB.size hb
  clear hb
  have khx := hx.cell
  have khy := hy.cell
  go_wp2_with fail
  clear khx khy
  refine (eqEventS_same GA WA V.length gc wc V _ (EvsW.r hG) (EvsW.r hV) hVn).mono ?_
  rintro e w6 ⟨rfl, hb⟩
  have l6 := hb.size
  replace hx := hx.below hb hx.lt
  replace hy := hy.below hb hy.lt
  replace hV := SlW.below hV hb (by omega)
  replace hG := SlW.below hG hb (by omega)
  replace hZ := hZ.below hb (by omega)
  replace hB := bstep hB hB.size hb
  clear hb
  obtain ⟨loG, hiG, hhG, hoG, hG1⟩ : ∃ lo hi, hi ≤ w6.heap.size ∧ X < lo ∧ EvsW lo hi w6 GA V.length gc V := ⟨_, _, by omega, by omega, hG⟩
  clear hG
  have hG := hG1
  clear hG1
  have h5 : X ≤ w6.heap.size := by omega
  replace hhV : hiV ≤ w6.heap.size := by omega
  go_upto_region 10 with fail
  refine wp_region2v (fun w w' => Below w.heap.size w w') (fun _ _ h => h.size) (fun _ => Below.refl _ _) (fun L W' => Below w.heap.size w W' ∧ BoxAt W' w.heap.size #[.int .i64 c.st.rd, .int .i64 c.st.mo, .slice sA sN sK, .int .i64 c.st.fi, .int .i64 c.st.la, .slice hA hN hK, .slice jA jN jK, .slice bA bN bK, .int .i64 c.ck, .slice eA eN eK] 45 ∧ BoxAt W' X #[.int .i64 c.st.rd, .int .i64 c.st.mo, .slice sA' sN sK', .int .i64 c.st.fi, .int .i64 c.st.la, .slice hA' hN hK', .slice jA' jN jK', .slice bA' bN bK', .int .i64 c.ck, .slice eA' eN eK'] 31 ∧ X ≤ W'.heap.size ∧ CrZ W' c (⟨⟨sA', sN, sK'⟩, ⟨hA', hN, hK'⟩, ⟨jA', jN, jK'⟩, ⟨bA', bN, bK'⟩, ⟨eA', eN, eK'⟩⟩ : CrL) m0 m1 m2 m3 m4 X ∧ hiV ≤ W'.heap.size ∧ EvsW loV hiV W' WA V.length wc V ∧ hiG ≤ W'.heap.size ∧ EvsW loG hiG W' GA V.length gc V) (lsOV c sA hA jA bA eA sA' hA' jA' bA' eA' sN hN jN bN eN sK hK jK bK eK sK' hK' jK' bK' eK' w.heap.size X) (fun _ => 0) [] (by kernel_rfl) (by kernel_rfl) ?_ ?_ ?_
    (.still rfl ?a0 <| .still rfl ?a1 <| .grow rfl ?a2 <| .grow rfl ?a3 <| .still rfl ?a4 <| .nil) ?_ ?_
  · exact ⟨fun _ _ _ h ⟨y2, e, hp⟩ => ⟨y2, (h 2 (List.mem_singleton.2 rfl)).symm.trans e, hp⟩, trivial⟩
  · exact ⟨fun σ w w' hb ⟨y2, e, hp⟩ => ⟨y2, e, hp.below hb⟩, trivial⟩
  · exact ⟨hB.drew, hx, hy, h5, hZ.keep (fun _ _ _ => rfl), hhV, hV, hhG, hG⟩
  case a0 =>
    go_light
    intro L σ W' hcl hL hC hw
    have kyy := hC.2.2.1.cell
    clear hw hcl hL hC
    refine OpGoes.step fun K hK => ?_
    unfold OpGoes
    go_simp
    exact hK _ _ ⟨rfl, rfl⟩
  case a1 =>
    go_light
    intro L σ W' hcl hL hC hw
    have kxx := hC.2.1.cell
    clear hw hcl hL hC
    refine OpGoes.step fun K hK => ?_
    unfold OpGoes
    go_simp
    exact hK _ _ ⟨rfl, rfl⟩
  case a4 =>
    go_light
    intro L σ W' hcl hL hC hw
    have e3 := wV hw 3 rfl
    clear hw hcl hL hC
    refine OpGoes.step fun K hK => ?_
    unfold OpGoes
    go_simp
    exact hK _ _ ⟨rfl, rfl⟩
  case a2 =>
    go_light
    intro L σ W' hcl hL hC hw
    have e1 := wV hw 1 rfl
    clear hw
    have HC := Lib.hid hC
    clear hC
    clear hcl hL
    refine OpGoes.step fun K hK => ?_
    unfold OpGoes
    go_simp
    obtain ⟨hB, hx, hy, h5, hZ, hhV, hV, hhG, hG⟩ := HC.out
    refine (HT.out _ hB).mono ?_
    rintro e w1 ⟨y2, _, _, _, _, rfl, hW2, hb1⟩
    exact ⟨_, rfl, hK _ _ ⟨⟨bstep hB hB.size hb1, hx.below hb1 hx.lt, hy.below hb1 hy.lt, Nat.le_trans h5 hb1.size, hZ.below hb1 h5, Nat.le_trans hhV hb1.size, SlW.below hV hb1 hhV, Nat.le_trans hhG hb1.size, SlW.below hG hb1 hhG⟩, ⟨y2, rfl, hW2.toW.r⟩, hb1⟩⟩
  case a3 =>
    go_light
    intro L σ W' hcl hL hC hw
    have e0 := wV hw 0 rfl
    obtain ⟨y2, e2, hp2⟩ := wE hw 2 rfl
    clear hw
    have HC := Lib.hid hC
    clear hC
    clear hcl hL
    refine OpGoes.step fun K hK => ?_
    unfold OpGoes
    go_simp
    obtain ⟨hB, hx, hy, h5, hZ, hhV, hV, hhG, hG⟩ := HC.out
    refine (eqCrew_same c (⟨⟨sA', sN, sK'⟩, ⟨hA', hN, hK'⟩, ⟨jA', jN, jK'⟩, ⟨bA', bN, bK'⟩, ⟨eA', eN, eK'⟩⟩ : CrL) y2 _ hZ.toW.r hp2 HF.out).mono ?_
    rintro e w1 ⟨rfl, hb1⟩
    exact ⟨_, rfl, hK _ _ ⟨⟨bstep hB hB.size hb1, hx.below hb1 hx.lt, hy.below hb1 hy.lt, Nat.le_trans h5 hb1.size, hZ.below hb1 h5, Nat.le_trans hhV hb1.size, SlW.below hV hb1 hhV, Nat.le_trans hhG hb1.size, SlW.below hG hb1 hhG⟩, rfl, hb1⟩⟩
  · intro L L' W' hLL hC
    obtain ⟨hB, hx, hy, h5, hZ, hhV, hV, hhG, hG⟩ := hC
    exact ⟨hB, hx, hy, h5, hZ, hhV, hV, hhG, hG⟩
  · intro σ L W' hall hC hRR
    obtain ⟨hB, hx, hy, h5, hZ, hhV, hV, hhG, hG⟩ := hC
    have e4 := dV hRR 4 rfl
    clear hRR
    simp only [lexAll]
    go_simp
    go_step
    clear e4
    rename World => v1
    have khx := hx.cell
    have khy := hy.cell
    go_wp2_with fail
    clear khx khy
    refine (markCrew_z c (⟨⟨sA', sN, sK'⟩, ⟨hA', hN, hK'⟩, ⟨jA', jN, jK'⟩, ⟨bA', bN, bK'⟩, ⟨eA', eN, eK'⟩⟩ : CrL) 1 m0 m1 m2 m3 m4 X _ hZ (by omega) HF.out HS.out (by omega) (by omega)).mono ?_
    rintro e w7 ⟨z9, rfl, hz9, hb⟩
    have l7 := hb.size
    replace hx := hb.box hx (.inl (by omega))
    replace hy := hb.box hy (.inr (by omega))
    replace hV := SlW.in_ hV hb
    replace hG := SlW.in_ hG hb
    replace hB := hB.trans (hb.below (by omega) hB.size)
    clear hb
    clear hZ
    have khx := hx.cell
    have khy := hy.cell
    go_wp2_with fail
    clear khx khy
    refine (eqEventS_same GA WA V.length gc wc V _ (EvsW.r hG) (EvsW.r hV) hVn).mono ?_
    rintro e w8 ⟨rfl, hb⟩
    have l8 := hb.size
    replace hx := hx.below hb hx.lt
    replace hy := hy.below hb hy.lt
    replace hV := SlW.below hV hb (by omega)
    replace hG := SlW.below hG hb (by omega)
    replace hB := bstep hB hB.size hb
    clear hb
    have khx := hx.cell
    have khy := hy.cell
    go_wp2_with fail
    clear khx khy
    refine (markEventS_w _ _ GA V.length gc V 1 _ hG hVn (by omega) (by omega)).mono ?_
    rintro e w9 ⟨rfl, hb, hM⟩
    have l9 := hb.size
    replace hx := hb.box hx (.inl (by omega))
    replace hy := hb.box hy (.inl (by omega))
    replace hV := SlW.in_ hV hb
    replace hB := hB.trans (hb.below (by omega) hB.size)
    clear hb
    clear hG
    have hzm : 0 ≤ 1 + 6 * (V.length : Int) := by omega
    generalize hzq : 1 + 6 * (V.length : Int) = zm at *
    have HZQ := Lib.hid hzq; clear hzq
    have khx := hx.cell
    have khy := hy.cell
    go_wp2_with fail
    clear khx khy
    refine (heldEventS_any GA V.length gc 1 _ (EvsW.r hM) hVn (by omega) (by omega)).mono ?_
    rw [HZQ.out]
    rintro e w10 ⟨rfl, hb⟩
    have l10 := hb.size
    replace hx := hx.below hb hx.lt
    replace hy := hy.below hb hy.lt
    replace hV := SlW.below hV hb (by omega)
    replace hM := SlW.below hM hb (by omega)
    replace hB := bstep hB hB.size hb
    clear hb
    have khx := hx.cell
    have khy := hy.cell
    go_wp2_with fail
    clear khx khy
    refine (HT.out _ hB).mono ?_
    rintro e w11 ⟨y3, a1, a2, a3, a4, rfl, hW3, hb⟩
    have l11 := hb.size
    replace hx := hx.below hb hx.lt
    replace hy := hy.below hb hy.lt
    replace hV := SlW.below hV hb (by omega)
    replace hM := SlW.below hM hb (by omega)
    replace hB := bstep hB hB.size hb
    clear hb
    have khx := hx.cell
    have khy := hy.cell
    go_wp2_with fail
    clear khx khy
    refine (HIO.out y3 _ _ _ hW3.toW (Nat.le_refl _)).mono ?_
    rintro e w12 ⟨HA, hc, rfl, hH, hb⟩
    have l12 := hb.size
    replace hx := hx.below hb hx.lt
    replace hy := hy.below hb hy.lt
    replace hV := SlW.below hV hb (by omega)
    replace hM := SlW.below hM hb (by omega)
    replace hB := bstep hB hB.size hb
    clear hb
    clear hW3
    have khx := hx.cell
    have khy := hy.cell
    go_wp2_with fail
    clear khx khy
    refine (eqEventS_same HA WA V.length hc wc V _ (EvsW.r hH) (EvsW.r hV) hVn).mono ?_
    rintro e w13 ⟨rfl, hb⟩
    have l13 := hb.size
    replace hx := hx.below hb hx.lt
    replace hy := hy.below hb hy.lt
    replace hV := SlW.below hV hb (by omega)
    replace hM := SlW.below hM hb (by omega)
    replace hH := SlW.below hH hb (by omega)
    replace hB := bstep hB hB.size hb
    clear hb
    have khx := hx.cell
    have khy := hy.cell
    go_wp2_with fail
    clear khx khy
    refine (heldEventS_any GA V.length gc 1 _ (EvsW.r hM) hVn (by omega) (by omega)).mono ?_
    rw [HZQ.out]
    rintro e w14 ⟨rfl, hb⟩
    have l14 := hb.size
    replace hx := hx.below hb hx.lt
    replace hy := hy.below hb hy.lt
    replace hV := SlW.below hV hb (by omega)
    replace hM := SlW.below hM hb (by omega)
    replace hH := SlW.below hH hb (by omega)
    replace hB := bstep hB hB.size hb
    clear hb
    go_wp2
    go_ret
    exact .mk rfl hB

end Go.Proofs.YtomfaabifpndbaaGreat
