/-
  The law on NewCrew holds: for every two numbers and every list of lists the program answers as the model, writes into nothing that it was given, and its answer is memory of its own. No conditions.
-/
import Derived.Deep.Light
import Derived.Test.YtomfaabifpndbaaGreatCpyG
import Derived.Test.YtomfaabifpndbaaGreatCrewN
import Derived.Test.YtomfaabifpndbaaGreatOpenG
namespace Go.Proofs.YtomfaabifpndbaaGreat
set_option linter.unusedSimpArgs false
set_option linter.unusedVariables false
open Go.RowKit Go.ChangeShapes Go.WideShapes Go.ChangeAt Go.Joins
set_option linter.unusedVariables false
attribute [local go_sem] OpUpon

attribute [local go_sem ↓] Go.wp_at_zero Go.wp_at_succ

theorem newStore_sum (rd mo : Int) : sumPs (newStore rd mo).1.rs ≤ 1048576 := by
  unfold newStore
  split
  · rename_i h
    simp only [Bool.and_eq_true, roundB, decide_eq_true_eq] at h
    have : (Rg.fresh rd.toNat).ps.length = rd.toNat := by simp [Rg.fresh, fresh]
    simp [sumPs, this]; omega
  · decide

theorem MkR.below {k : Int} {w w' : World} {c : Cr} {y : CrL} (h : MkR k w c y) (hb : Below w.heap.size w w') : MkR k w' c y := ⟨h.s.below hb, h.h.below hb, h.j.below hb, h.b.below hb, h.e.below hb⟩

set_option maxRecDepth 100000 in
set_option maxHeartbeats 8000000 in
theorem exactNewCrew_any (rd mo : Int) (js : List (List Int)) (A : Option Addr) (n cap : Nat) (w : World) (hr : LisR w A n js) (hm : n ≤ maxLen) :
    Calls Tryz.prog 3 #[.int .i64 rd, .int .i64 mo, .slice A n cap] w (RetBelow (.bool true) w) := by
  have HZ := Lib.hid (fun W (hB : Below w.heap.size w W) => szInt64SS_any A n cap js 1048576 W (LisR.below hr hB) hm (by omega) (by omega))
  have HL := Lib.hid (show js.length = n from hr.1)
  have HR := Lib.hid (fun W (hB : Below w.heap.size w W) => LisR.below hr hB)
  go_enter Tryz.func3, Tryz.ntmps3
  go_wp2_with fail
  refine (HZ.out _ (Below.refl _ _)).mono ?_
  rintro e w1 ⟨rfl, hB⟩
  rcases szLL_or js (left := 1048576) (by omega) with hz | ⟨hz0, hz1, hsum⟩
  · rw [hz]
    go_wp2
    go_ret
    exact .mk rfl hB
  have hz2 : ¬ szLL 1048576 js < 0 := by omega
  have hn : n ≤ 1048576 := by have := HL.out; omega
  have hml : ∀ l ∈ js, l.length ≤ 1048576 := fun l hl => by have := sumLs_mem hl; omega
  have HT := Lib.hid (fun W (hB : Below w.heap.size w W) => toInt64SS_any A n cap js W (LisR.below hr hB) hn hml)
  have HM := Lib.hid (fun A n cap lo hi W (hl : ListsW lo hi W A n cap js) (hh : hi ≤ W.heap.size) (hn : n ≤ 1048576) => snewCrew_any rd mo js A n cap lo hi W hl hh hn hml)
  have HP := Lib.hid (fun A n cap lo hi W (hl : ListsW lo hi W A n cap js) (hh : hi ≤ W.heap.size) (hn : n ≤ 1048576) => inewCrew_z rd mo js A n cap lo hi W hl hh hn hml)
  have HF := Lib.hid (show CrFit (newCrew rd mo js).1 by
    rw [newCrew_eq]
    cases crOk (newC0 rd mo js)
    · show CrFit Cr.zero
      exact ⟨by decide, (fun r hr => nomatch hr), by decide, by decide, (fun l hl => nomatch hl), by decide, by decide⟩
    · exact newC0_fit rd mo js (by have := HL.out; omega) hml)
  have hsum2 : sumLs js ≤ 1048576 := by omega
  have HS := Lib.hid (show CrSum (newCrew rd mo js).1 by
    rw [newCrew_eq]
    cases crOk (newC0 rd mo js)
    · exact ⟨by show sumPs [] ≤ _; decide, by show sumLs [] ≤ _; decide⟩
    · exact ⟨newStore_sum rd mo, hsum2⟩)
  generalize newCrew rd mo js = Q at *
  clear hz0 hz1
  go_wp2_with fail
  refine (HT.out _ hB).mono ?_
  rintro e w2 ⟨A2, c2, rfl, hL2, hb⟩
  replace hB := bstep hB hB.size hb
  clear hb
  go_wp2_with fail
  have hnl : js.length ≤ 1048576 := by have := HL.out; omega
  refine (HM.out A2 js.length c2 _ _ _ hL2.toW (Nat.le_refl _) hnl).mono ?_
  rintro e w3 ⟨y1, rfl, hW1, hb⟩
  clear hL2
  replace hB := bstep hB hB.size hb
  clear hb
  unfold crV
  go_wp2_with fail
  refine calls_abs (fun W => Below w.heap.size w W ∧ BoxAt W w3.heap.size #[.int .i64 Q.1.st.rd, .int .i64 Q.1.st.mo, .slice y1.s.A y1.s.n y1.s.cap, .int .i64 Q.1.st.fi, .int .i64 Q.1.st.la, .slice y1.h.A y1.h.n y1.h.cap, .slice y1.j.A y1.j.n y1.j.cap, .slice y1.b.A y1.b.n y1.b.cap, .int .i64 Q.1.ck, .slice y1.e.A y1.e.n y1.e.cap] 31 ∧ CrW w2.heap.size w3.heap.size W Q.1 y1) ⟨hB.alloc hB.size _, BoxAt.new _ _ _, hW1.below ((Below.refl _ _).alloc (Nat.le_refl _) _) (Nat.le_refl _)⟩ ?_
  have hX1 := hB.size
  clear hB hW1
  rintro W4 ⟨hB, hx, hR1⟩
  have lx := hx.lt
  generalize w3.heap.size = X1 at *
  refine (HT.out _ hB).mono ?_
  rintro e w5 ⟨A3, c3, rfl, hL3, hb⟩
  have hs5 := hb.size
  replace hB := bstep hB hB.size hb
  replace hx := hx.below hb hx.lt
  replace hR1 := hR1.below hb (by omega)
  clear hb
  go_wp2_with fail
  refine (HP.out A3 js.length c3 _ _ _ hL3.toW (Nat.le_refl _) hnl).mono ?_
  rintro e w6 ⟨y2, l1, l2, l3, l4, rfl, hZ, hb⟩
  have hs6 := hb.size
  replace hB := bstep hB hB.size hb
  replace hx := hx.below hb hx.lt
  replace hR1 := hR1.below hb (by omega)
  have hL3' := hL3.keep (.below hb (Nat.le_refl _))
  clear hL3 hb
  unfold crV
  go_upto_region 8 with fail
  have hb7 := (Below.refl w6.heap.size w6).alloc (Nat.le_refl _) (.cells #[.int .i64 Q.1.st.rd, .int .i64 Q.1.st.mo, .slice y2.s.A y2.s.n y2.s.cap, .int .i64 Q.1.st.fi, .int .i64 Q.1.st.la, .slice y2.h.A y2.h.n y2.h.cap, .slice y2.j.A y2.j.n y2.j.cap, .slice y2.b.A y2.b.n y2.b.cap, .int .i64 Q.1.ck, .slice y2.e.A y2.e.n y2.e.cap] 31)
  refine wp_abs (fun W => Below w.heap.size w W ∧ BoxAt W X1 #[.int .i64 Q.1.st.rd, .int .i64 Q.1.st.mo, .slice y1.s.A y1.s.n y1.s.cap, .int .i64 Q.1.st.fi, .int .i64 Q.1.st.la, .slice y1.h.A y1.h.n y1.h.cap, .slice y1.j.A y1.j.n y1.j.cap, .slice y1.b.A y1.b.n y1.b.cap, .int .i64 Q.1.ck, .slice y1.e.A y1.e.n y1.e.cap] 31 ∧ BoxAt W w6.heap.size #[.int .i64 Q.1.st.rd, .int .i64 Q.1.st.mo, .slice y2.s.A y2.s.n y2.s.cap, .int .i64 Q.1.st.fi, .int .i64 Q.1.st.la, .slice y2.h.A y2.h.n y2.h.cap, .slice y2.j.A y2.j.n y2.j.cap, .slice y2.b.A y2.b.n y2.b.cap, .int .i64 Q.1.ck, .slice y2.e.A y2.e.n y2.e.cap] 31 ∧ ListsD W4.heap.size w5.heap.size W A3 js.length c3 js ∧ CrZ W Q.1 y2 w5.heap.size l1 l2 l3 l4 w6.heap.size ∧ CrW w2.heap.size X1 W Q.1 y1) ⟨hB.alloc hB.size _, hx.alloc _, BoxAt.new _ _ _, hL3'.keep (.below hb7 hs6), hZ.below hb7 (Nat.le_refl _), hR1.below hb7 (by omega)⟩ ?_
  clear hB hx hL3' hZ hR1 hb7
  rintro W8 ⟨hB, hx, hy, hL3, hZ, hR1⟩
  have ly := hy.lt
  generalize w6.heap.size = X2 at *
  generalize w5.heap.size = bL at *
  generalize W4.heap.size = aL at *
  have kx := hx.cell
  have ky := hy.cell
  go_wp2_with fail
  clear kx ky
  refine (eqCrew_same Q.1 y2 y1 _ hZ.toW.r hR1.r HF.out).mono ?_
  rintro e w9 ⟨rfl, hb⟩
  have hs9 := hb.size
  replace hB := bstep hB hB.size hb
  replace hx := hx.below hb hx.lt
  replace hy := hy.below hb hy.lt
  replace hL3 := hL3.keep (.below hb (by omega))
  replace hZ := hZ.below hb (by omega)
  replace hR1 := hR1.below hb (by omega)
  clear hb
  go_wp2_with fail
  refine (HT.out _ hB).mono ?_
  rintro e w10 ⟨A4, c4, rfl, hL4, hb⟩
  have hs10 := hb.size
  replace hB := bstep hB hB.size hb
  replace hx := hx.below hb hx.lt
  replace hy := hy.below hb hy.lt
  replace hL3 := hL3.keep (.below hb (by omega))
  replace hZ := hZ.below hb (by omega)
  replace hR1 := hR1.below hb (by omega)
  clear hb
  go_wp2_with fail
  refine (eqInt64SS_same A3 A4 js.length c3 c4 js _ hL3.toW.r hL4.toW.r hnl hml).mono ?_
  rintro e w11 ⟨rfl, hb⟩
  have hs11 := hb.size
  replace hB := bstep hB hB.size hb
  replace hx := hx.below hb hx.lt
  replace hy := hy.below hb hy.lt
  replace hL3 := hL3.keep (.below hb (by omega))
  replace hZ := hZ.below hb (by omega)
  replace hR1 := hR1.below hb (by omega)
  clear hb hL4
  go_wp2_with fail
  have hB0 := hB.size
  refine (markInt64SS_d aL bL A3 js.length c3 js 1 _ hL3 (by omega) hnl (by omega) (by omega) (by omega)).mono ?_
  rintro e w12 ⟨rfl, hb, _⟩
  have hs12 := hb.size
  replace hx := hb.box hx (by omega)
  replace hy := hb.box hy (by omega)
  replace hZ := hZ.keep (hb.same (by omega) (by omega))
  replace hR1 := hR1.keep (hb.same (by omega) (by omega))
  replace hB := hB.trans (hb.below (by omega) hB.size)
  clear hb hL3
  have hq0 : ¬ 1 + (sumLs js : Int) < 0 := by omega
  generalize 1 + (sumLs js : Int) = zq at *
  have kx := hx.cell
  have ky := hy.cell
  go_wp2_with fail
  clear kx ky
  refine (eqCrew_same Q.1 y2 y1 _ hZ.toW.r hR1.r HF.out).mono ?_
  rintro e w13 ⟨rfl, hb⟩
  have hs13 := hb.size
  replace hB := bstep hB hB.size hb
  replace hx := hx.below hb hx.lt
  replace hy := hy.below hb hy.lt
  replace hZ := hZ.below hb (by omega)
  replace hR1 := hR1.below hb (by omega)
  clear hb
  have e1 := hZ.s.1
  have e2 := hZ.h.1
  have e3 := hZ.j.toW.len
  have e4 := hZ.b.1
  have e5 := hZ.e.1
  have m1 := HF.out.s
  have m2 := HF.out.h
  have m3 := HF.out.j
  have m4 := HF.out.b
  have m5 := HF.out.e
  rw [e2] at m2
  rw [e3] at m3
  rw [e4] at m4
  rw [e5] at m5
  clear e1 e2 e3 e4 e5
  have ky := hy.cell
  go_wp2_with fail
  clear ky
  refine (markCrew_m Q.1 y2 1 bL l1 l2 l3 l4 X2 _ hZ (by omega) HF.out HS.out (by omega) (by omega)).mono ?_
  rintro e w14 ⟨rfl, hb, hM3⟩
  have hs14 := hb.size
  replace hx := hb.box hx (by omega)
  replace hy := hb.box hy (by omega)
  replace hR1 := hR1.keep (hb.same (by omega) (by omega))
  replace hB := hB.trans (hb.below (by omega) hB.size)
  clear hb hZ
  have hz5 : 0 ≤ mz5 1 Q.1 y2 := by
    unfold mz5 mz4 mz3 mz2 mz1 markEnd; omega
  have HH := Lib.hid (fun W (hM : MkR 1 W Q.1 y2) => heldCrew_any Q.1 y2 1 W hM m1 m2 m3 m4 m5 HS.out (by omega) (by omega))
  clear m1 m2 m3 m4 m5
  generalize mz5 1 Q.1 y2 = z5 at *
  have hq1 : ¬ z5 < 0 := by omega
  have ky := hy.cell
  go_wp2_with fail
  clear ky
  refine (HH.out _ hM3).mono ?_
  rintro e w15 ⟨rfl, hb⟩
  have hs15 := hb.size
  replace hB := bstep hB hB.size hb
  replace hx := hx.below hb hx.lt
  replace hy := hy.below hb hy.lt
  replace hR1 := hR1.below hb (by omega)
  replace hM3 := hM3.below hb
  clear hb
  go_wp2_with fail
  refine (HT.out _ hB).mono ?_
  rintro e w16 ⟨A5, c5, rfl, hL5, hb⟩
  have hs16 := hb.size
  replace hB := bstep hB hB.size hb
  replace hx := hx.below hb hx.lt
  replace hy := hy.below hb hy.lt
  replace hR1 := hR1.below hb (by omega)
  replace hM3 := hM3.below hb
  clear hb
  go_wp2_with fail
  refine (HP.out A5 js.length c5 _ _ _ hL5.toW (Nat.le_refl _) hnl).mono ?_
  rintro e w17 ⟨y3, a1, a2, a3, a4, rfl, hZ3, hb⟩
  have hs17 := hb.size
  replace hB := bstep hB hB.size hb
  replace hx := hx.below hb hx.lt
  replace hy := hy.below hb hy.lt
  replace hR1 := hR1.below hb (by omega)
  replace hM3 := hM3.below hb
  clear hb hL5
  unfold crV
  go_upto_region 25 with fail
  have hb18 := (Below.refl w17.heap.size w17).alloc (Nat.le_refl _) (.cells #[.int .i64 Q.1.st.rd, .int .i64 Q.1.st.mo, .slice y3.s.A y3.s.n y3.s.cap, .int .i64 Q.1.st.fi, .int .i64 Q.1.st.la, .slice y3.h.A y3.h.n y3.h.cap, .slice y3.j.A y3.j.n y3.j.cap, .slice y3.b.A y3.b.n y3.b.cap, .int .i64 Q.1.ck, .slice y3.e.A y3.e.n y3.e.cap] 31)
  refine wp_abs (fun W => Below w.heap.size w W ∧ BoxAt W X1 #[.int .i64 Q.1.st.rd, .int .i64 Q.1.st.mo, .slice y1.s.A y1.s.n y1.s.cap, .int .i64 Q.1.st.fi, .int .i64 Q.1.st.la, .slice y1.h.A y1.h.n y1.h.cap, .slice y1.j.A y1.j.n y1.j.cap, .slice y1.b.A y1.b.n y1.b.cap, .int .i64 Q.1.ck, .slice y1.e.A y1.e.n y1.e.cap] 31 ∧ BoxAt W X2 #[.int .i64 Q.1.st.rd, .int .i64 Q.1.st.mo, .slice y2.s.A y2.s.n y2.s.cap, .int .i64 Q.1.st.fi, .int .i64 Q.1.st.la, .slice y2.h.A y2.h.n y2.h.cap, .slice y2.j.A y2.j.n y2.j.cap, .slice y2.b.A y2.b.n y2.b.cap, .int .i64 Q.1.ck, .slice y2.e.A y2.e.n y2.e.cap] 31 ∧ BoxAt W w17.heap.size #[.int .i64 Q.1.st.rd, .int .i64 Q.1.st.mo, .slice y3.s.A y3.s.n y3.s.cap, .int .i64 Q.1.st.fi, .int .i64 Q.1.st.la, .slice y3.h.A y3.h.n y3.h.cap, .slice y3.j.A y3.j.n y3.j.cap, .slice y3.b.A y3.b.n y3.b.cap, .int .i64 Q.1.ck, .slice y3.e.A y3.e.n y3.e.cap] 31 ∧ CrR W Q.1 y3 ∧ CrW w2.heap.size X1 W Q.1 y1 ∧ MkR 1 W Q.1 y2) ⟨hB.alloc hB.size _, hx.alloc _, hy.alloc _, BoxAt.new _ _ _, hZ3.toW.r.below hb18, hR1.below hb18 (by omega), hM3.below hb18⟩ ?_
  clear hB hx hy hZ3 hR1 hM3 hb18
  rintro W18 ⟨hB, hx, hy, hv, hR3, hR1, hM3⟩
  have lv := hv.lt
  generalize w17.heap.size = X3 at *
  have kx := hx.cell
  have kv := hv.cell
  go_wp2_with fail
  clear kx kv
  refine (eqCrew_same Q.1 y3 y1 _ hR3 hR1.r HF.out).mono ?_
  rintro e w19 ⟨rfl, hb⟩
  have hs19 := hb.size
  replace hB := bstep hB hB.size hb
  replace hy := hy.below hb hy.lt
  replace hM3 := hM3.below hb
  clear hb
  have ky := hy.cell
  go_wp2_with fail
  clear ky
  refine (HH.out _ hM3).mono ?_
  rintro e w20 ⟨rfl, hb⟩
  replace hB := bstep hB hB.size hb
  clear hb
  go_wp2
  go_ret
  exact .mk rfl hB

end Go.Proofs.YtomfaabifpndbaaGreat

namespace Go.Proofs.YtomfaabifpndbaaGreat
set_option linter.unusedSimpArgs false
set_option linter.unusedVariables false
open Go.RowKit Go.ChangeShapes Go.WideShapes Go.ChangeAt Go.Joins
set_option linter.unusedVariables false

open Go.Deep
section
variable {H : Type} {enc : TypeId × Value → H} {w : World} {base : Nat} {spare : Nat → Bool} {held : Bool}
set_option maxRecDepth 100000 in
theorem trod_lis {fuel : Nat} {cs : List Value} {x : DataW H × List MemPlace} (h : DataW.trod enc Tryz.prog w base spare held fuel 22 cs = some x) :
    ∃ (A : Option Addr) (n cap : Nat) (L : List (List Int)), cs = [.slice A n cap] ∧ n ≤ maxLen ∧ LisR w A n L :=
  open_list LiE Tryz.underlying22 (by kernel_rfl) (by omega) (fun fuel cs x b o ht hc => by
    obtain ⟨A, n, cap, l, rfl, hn, hl⟩ := trod_ints ht
    exact ⟨l, A, n, cap, by simpa using hc 0 _ rfl, hn, hl⟩) h
set_option maxRecDepth 100000 in
theorem open_lis {b0 : Nat} {v : Value} {d : DataW H} {p : List MemPlace} (hv : Value.okWide Tryz.prog w .any b0 22 v) (h : DataW.Trod enc Tryz.prog w base spare held 22 v d p) :
    ∃ (A : Option Addr) (n cap : Nat) (L : List (List Int)), v = .slice A n cap ∧ n ≤ maxLen ∧ LisR w A n L := by
  obtain ⟨A0, n0, c0, rfl⟩ := okWide_slice Tryz.underlying22 hv
  obtain ⟨fuel, hf⟩ := h
  obtain ⟨A, n, cap, l, hc, hn, hl⟩ := trod_lis hf
  have : Value.slice A0 n0 c0 = .slice A n cap := by simpa [Value.cells] using hc
  exact ⟨A, n, cap, l, this, hn, hl⟩
end

set_option maxRecDepth 100000 in
theorem fnExactNewCrew_lifted (os : Os) (started : os.Started) (H : Type) (enc : TypeId × Value → H) :
    ReturnsInHanded {} Tryz.checked os 3 .any (Rows.fnExactNewCrewSpec.pre6 enc Tryz.prog Tryz.f3 Rows.fnExactNewCrewRow.domain false) (Rows.fnExactNewCrewSpec.post enc Tryz.prog Tryz.f3 false true false false) := by
  refine law_lifted (C := Tryz.checked) (fn := Tryz.f3) own started (by kernel_rfl) Tryz.func3 laidOut Tryz.underlying4 rfl rfl (by kernel_rfl) (fun ds h => ?_)
    (ChangeSpec.witness6 (enc := enc) (C := Tryz.checked) false ⟨#[], #[.int .i64 0, .int .i64 0, .slice none 0 0], []⟩ 8 (by kernel_rfl) (by kernel_rfl) (by kernel_rfl) (by kernel_rfl)) ?_
  · match ds, h with | [_, _, _], _ => rfl
  intro W base args ds p hval0 hA0
  have hval : ∀ (j : Nat) t v, Tryz.f3.params[j]? = some t → args[j]? = some v → Value.okWide Tryz.prog W .any base t v := hval0
  have hA : DataW.TrodAll enc Tryz.prog W 0 (fun _ => true) true Tryz.f3.params.toList args.toList ds p := hA0
  rw [Tryz.params3] at hA hval
  obtain ⟨v0, vs0, d0, ds0, p0, q0, hargs, rfl, rfl, h0, r0⟩ := trodAll_cons hA
  obtain ⟨v1, vs1, d1, ds1, p1, q1, rfl, rfl, rfl, h1, r1⟩ := trodAll_cons r0
  obtain ⟨v2, vs2, d2, ds2, p2, q2, rfl, rfl, rfl, h2, r2⟩ := trodAll_cons r1
  obtain ⟨rfl, rfl, rfl⟩ := trodAll_nil r2
  obtain rfl : args = #[v0, v1, v2] := by cases args; simp_all
  obtain ⟨z, rfl, rfl, rfl, _⟩ := open_int Tryz.underlying2 (hval 0 2 v0 rfl rfl) h0
  obtain ⟨y, rfl, rfl, rfl, _⟩ := open_int Tryz.underlying2 (hval 1 2 v1 rfl rfl) h1
  obtain ⟨A2, n2, cap2, l2, rfl, hm2, hl2⟩ := open_lis (hval 2 22 v2 rfl rfl) h2
  exact exactNewCrew_any z y l2 A2 n2 cap2 W hl2 hm2

theorem fnExactNewCrew_holds : Rows.FnExactNewCrewSaid :=
  OpenClaim.holds_of_wide 3 Tryz.f3 rfl rfl rfl rfl rfl rfl rfl ⟨rfl, rfl, rfl, rfl, rfl⟩ rfl rfl rfl rfl rfl (by kernel_rfl) Tryz.func3 (by kernel_rfl)
    (of_decide_eq_true (by kernel_rfl)) (by unfold Func.isWrapper; first | (rw [if_pos (by decide +kernel)]; kernel_rfl) | (rw [if_neg (by decide +kernel)]; exact ⟨rfl, rfl⟩))
    (fun os started H enc _ => fnExactNewCrew_lifted os started H enc)

end Go.Proofs.YtomfaabifpndbaaGreat

