/-
 The program's facts of a story: NothingTwice.
-/
import Derived.Test.YtghgfbncijfocaaFacI
namespace Go.Proofs.Ytghgfbncijfocaa
set_option linter.unusedSimpArgs false
set_option linter.unusedVariables false
open Go.RowKit Go.Shelf Go.Maps
set_option linter.unusedVariables false
attribute [local go_sem] Oper.semAt_some
attribute [local go_sem ↓] Go.wp_at_zero Go.wp_at_succ

theorem story_vals {l : List Ev} (h : storyOk l = true) : ∀ x ∈ l, 0 ≤ x.v ∧ x.v ≤ 1000000 := fun x hx => by
 unfold storyOk at h
 simp only [Bool.and_eq_true, List.all_eq_true] at h
 have h1 := h.1 x hx
 unfold evOk at h1
 simp only [Bool.and_eq_true] at h1
 have h2 := h1.2
 cases hp : x.put
 ·
  rw [hp] at h2
  simp only [cond_false, Bool.or_eq_true, Bool.and_eq_true, valB, decide_eq_true_eq, beq_iff_eq] at h2
  omega
 ·
  rw [hp] at h2
  simp only [cond_true, Bool.and_eq_true, valB, decide_eq_true_eq] at h2
  omega
def iNothing (l : List Ev) : Bool := storyOk l && !tooOften l && (gotsF l).all (hasPutB l)

set_option maxRecDepth 100000 in
set_option maxHeartbeats 4000000 in
theorem inothing_any (l : List Ev) (A : Option Addr) (n cap : Nat) (w : World) (h : EvsR w A n l) (hn : n ≤ 1048576) :
  Calls Try.prog 10 #[.slice A n cap] w (RetBelow (.bool (iNothing l)) w) := by
 refine (callsIn_wide (n := 3)).1 ?_
 refine callsIn_of_wp_marks Try.func10 rfl trivial ?_ rfl
 simp only [Try.ntmps10, List.size_toArray, List.length_cons, List.length_nil, Nat.reduceAdd, Nat.reduceSub, Array.replicate_succ, Array.replicate_zero, List.push_toArray, List.append_toArray, List.nil_append, List.cons_append]
 gi_upto_region 1 with fail
 have hB0 : Below w.heap.size w ((w.alloc (.cells #[.slice A n cap] 25)).alloc (.cells #[.bool false] 4)) := ((Below.refl _ _).alloc (Nat.le_refl _) _).alloc (by simp) _
 have hy0 : BoxAt ((w.alloc (.cells #[.slice A n cap] 25)).alloc (.cells #[.bool false] 4)) w.heap.size #[.slice A n cap] 25 := (BoxAt.new _ _ _).alloc _
 have hx0 : BoxAt ((w.alloc (.cells #[.slice A n cap] 25)).alloc (.cells #[.bool false] 4)) (w.heap.size + 1) #[.bool false] 4 := BoxAt.new' (by simp)
 have hs0 : ((w.alloc (.cells #[.slice A n cap] 25)).alloc (.cells #[.bool false] 4)).heap.size = w.heap.size + 2 := by simp
 generalize (w.alloc (.cells #[.slice A n cap] 25)).alloc (.cells #[.bool false] 4) = W at *
 obtain ⟨X, hX⟩ : ∃ X, w.heap.size + 1 = X := ⟨_, rfl⟩
 obtain ⟨Y, hY⟩ : ∃ Y, w.heap.size = Y := ⟨_, rfl⟩
 rw [hX] at hx0 ⊢
 rw [hY] at hy0 ⊢
 have hYw : w.heap.size ≤ Y := by omega
 have hXY : Y < X := by omega
 have hXW : X < W.heap.size := by omega
 clear hX hY hs0
 have ky := hy0.cell
 gi_wp2_with fail
 refine ⟨trivial, (callsIn_wide.2 (istory_any l A n cap W (h.below hB0) hn)).mono ?_⟩
 rintro e W1 ⟨rfl, hb1⟩
 replace hB0 := bstep hB0 hB0.size hb1
 replace hy0 := hy0.below hb1 hy0.lt
 replace hx0 := hx0.below hb1 hx0.lt
 replace hXW : X < W1.heap.size := hx0.lt
 clear hb1 ky
 have ky := hy0.cell
 have kx := hx0.cell
 have fx := hx0.frozen
 cases hok : storyOk l
 ·
  have HR := Lib.hid (show iNothing l = false by unfold iNothing; rw [hok]; rfl)
  clear hok
  gi_wp2
  refine ⟨trivial, ?_⟩
  gi_wp2
  have kg := (hx0.set 0 (.bool false)).cell
  exact ⟨.bool false, by simp [results, Try.results10, go_sem, kg], .mk (congrArg Value.bool HR.out.symm) (hB0.setCell (p := ⟨X, 0, none⟩) (by simp; omega) _)⟩
 have hv := story_vals hok
 gi_wp2_with fail
 refine ⟨trivial, (callsIn_wide.2 (tooOften_any l A n cap W1 (h.below hB0) hn hv)).mono ?_⟩
 rintro e W2 ⟨rfl, hb1⟩
 replace hB0 := bstep hB0 hB0.size hb1
 replace hy0 := hy0.below hb1 hy0.lt
 replace hx0 := hx0.below hb1 hx0.lt
 replace hXW : X < W2.heap.size := hx0.lt
 clear hb1 ky kx fx
 have ky := hy0.cell
 have kx := hx0.cell
 have fx := hx0.frozen
 cases hto : tooOften l
 case true =>
  have HR := Lib.hid (show iNothing l = false by unfold iNothing; rw [hok, hto]; rfl)
  clear hok hto
  gi_wp2
  have kg := (hx0.set 0 (.bool false)).cell
  exact ⟨.bool false, by simp [results, Try.results10, go_sem, kg], .mk (congrArg Value.bool HR.out.symm) (hB0.setCell (p := ⟨X, 0, none⟩) (by simp; omega) _)⟩
 have HI := Lib.hid (show iNothing l = (gotsF l).all (hasPutB l) by unfold iNothing; rw [hok, hto]; rfl)
 clear hok hto
 gi_wp2_with fail
 refine ⟨trivial, (callsIn_wide.2 (replied_any A n cap 4 W2)).mono ?_⟩
 rintro e W5 ⟨rfl, hq5⟩
 have hb5 : Below W2.heap.size W2 W5 := by rw [hq5]; exact ((Below.refl _ _).alloc (Nat.le_refl _) _).alloc (by simp) _
 have hPl : BoxAt W5 W2.heap.size #[.slice A n cap] 25 := by rw [hq5]; exact (BoxAt.new _ _ _).alloc _
 have hPr : BoxAt W5 (W2.heap.size + 1) #[.int .i64 4] 2 := by rw [hq5]; exact BoxAt.new' (by simp)
 have hs5 : W5.heap.size = W2.heap.size + 2 := by rw [hq5]; simp
 clear hq5
 obtain ⟨P, hP⟩ : ∃ P, W2.heap.size = P := ⟨_, rfl⟩
 replace hB0 := bstep hB0 hB0.size hb5
 replace hy0 := hy0.below hb5 hy0.lt
 replace hx0 := hx0.below hb5 hx0.lt
 rw [hP] at hPl hPr hs5 hXW ⊢
 have hsP : P + 2 ≤ W5.heap.size := by omega
 clear hb5 hP hs5 ky kx fx
 gi_wp2_with fail
 refine wpIn_rep w (P₀ := P) rfl h hn hB0 (by omega) hsP hPl hPr
  (fun ys Wy => (BoxAt Wy Y #[.slice A n cap] 25 ∧ BoxAt Wy X #[.bool false] 4) ∧ ys.all (hasPutB l) = true)
  (fun ys Wy => BoxAt Wy X #[.bool false] 4 ∧ ys.all (hasPutB l) = false)
  (OwnFrom.and (OwnFrom.and box_own box_own) (ownFrom_pure _ (fun ys : List Ev => ys.all (hasPutB l) = true)))
  (OwnFrom.and box_own (ownFrom_pure _ (fun ys : List Ev => ys.all (hasPutB l) = false)))
  ⟨⟨hy0, hx0⟩, rfl⟩ (fun x E => { tmps := #[.slice A n cap, .pointer (some ⟨Y, 0, none⟩), .pointer (some ⟨X, 0, none⟩), .pointer (some ⟨E, 0, none⟩), .slice A n cap, .bool true, .bool false, .bool false, .slice A n cap, .bool false, .bool false, .slice A n cap, .func (.func 36) #[] #[.pointer (some ⟨P, 0, none⟩), .pointer (some ⟨P + 1, 0, none⟩)], .agg #[.int .i64 x.who, .bool x.put, .int .i64 x.v, .int .i64 x.re, .int .i64 x.b, .int .i64 x.e], undef, undef, undef, undef], defers := [] }) ?assign ?body ?done ?stop
 case assign =>
  intro lp x Wy K hK
  unfold evC at hK ⊢
  gi_wp2
  simpa using hK
 case body =>
  rintro lp ys x E Wy hE hxl hxr hB hsz hx ⟨⟨hy, hr⟩, hal⟩ hlen
  have kx := hx.cell
  have ky := hy.cell
  unfold evC at kx
  gi_wp2_with fail
  refine ⟨trivial, (callsIn_wide.2 (hasPut_any l x A n cap Wy (h.below hB) hn)).mono ?_⟩
  rintro e W3 ⟨rfl, hb3⟩
  have hr3 := hr.below hb3 hr.lt
  have hy3 := hy.below hb3 hy.lt
  have kr := hr3.cell
  have fr := hr3.frozen
  clear kx ky
  cases hp : hasPutB l x
  ·
   have HA := Lib.hid (show (ys ++ [x]).all (hasPutB l) = false by rw [List.all_append, hal]; simp [hp])
   clear hal hp
   gi_wp2
   exact ⟨⟨X, by omega, by omega, (But.of_below hb3).set 0 _⟩, hr3.set 0 _, HA.out⟩
  ·
   have HA := Lib.hid (show (ys ++ [x]).all (hasPutB l) = true by rw [List.all_append, hal]; simp [hp])
   clear hal hp
   gi_wp2
   exact ⟨⟨X, by omega, by omega, .of_below hb3⟩, ⟨hy3, hr3⟩, HA.out⟩
 case done =>
  rintro D Wd hD hB hsz ⟨⟨hy, hr⟩, hal⟩ hdef
  have HDF := Lib.hid hdef
  have HR := Lib.hid (show iNothing l = true by rw [HI.out]; exact hal)
  have kr := hr.cell
  have fr := hr.frozen
  clear hdef hal
  gi_wp2
  have hd2 := (KeepsOthers.setCell Wd ⟨X, 0, none⟩ (.bool true)).same D _ HDF.out rfl
  refine leavesR (M := w.heap.size) (fun Wg => BoxAt Wg X #[.bool true] 4 ∧ Below w.heap.size w Wg) (fun Wg hG => ?_) (fun Wg D hD hG hs => ⟨box_own (β := Unit) (C := 0) () _ _ (some D) hG.1 (grownBy_putObj' _ D (.deferred none)) (fun r e => by cases e; exact ⟨Nat.zero_le _, _, hs, rfl⟩), hG.2.trans (belowK_b (w := w) (Nat.le_refl _) _ D _ _ hD hs rfl rfl)⟩) [D] _ (by simp) (fun E hE => by obtain rfl : E = D := List.mem_singleton.1 hE; exact ⟨by omega, hd2⟩) ⟨hr.set 0 _, hB.setCell (p := ⟨X, 0, none⟩) (by simp; omega) _⟩
  have kg := hG.1.cell
  exact ⟨.bool true, by simp [results, Try.results10, go_sem, kg], .mk (congrArg Value.bool HR.out.symm) hG.2⟩
 case stop =>
  rintro D ys Ws hD hB hsz hpre ⟨hr, hal⟩ hdef
  have HR := Lib.hid (show iNothing l = false by
   rw [HI.out]
   obtain ⟨s, hs⟩ := hpre
   unfold gotsF
   rw [← hs, List.all_append, hal]; rfl)
  clear hal
  gi_wp2
  refine leavesR (M := w.heap.size) (fun Wg => BoxAt Wg X #[.bool false] 4 ∧ Below w.heap.size w Wg) (fun Wg hG => ?_) (fun Wg D hD hG hs => ⟨box_own (β := Unit) (C := 0) () _ _ (some D) hG.1 (grownBy_putObj' _ D (.deferred none)) (fun r e => by cases e; exact ⟨Nat.zero_le _, _, hs, rfl⟩), hG.2.trans (belowK_b (w := w) (Nat.le_refl _) _ D _ _ hD hs rfl rfl)⟩) [D] _ (by simp) (fun E hE => by obtain rfl : E = D := List.mem_singleton.1 hE; exact ⟨by omega, hdef⟩) ⟨hr, hB⟩
  have kg := hG.1.cell
  exact ⟨.bool false, by simp [results, Try.results10, go_sem, kg], .mk (congrArg Value.bool HR.out.symm) hG.2⟩

/-! ### What it answers -/

theorem ev_put {x : Ev} (h : evOk x = true) : (x.re = 1 → x.put = true) ∧ (x.re = 4 → x.put = false) ∧ (x.re = 1 ∨ x.re = 2 → x.put = true) ∧ (x.re = 3 ∨ x.re = 4 → x.put = false) ∧ (x.re = 1 ∨ x.re = 2 ∨ x.re = 3 ∨ x.re = 4) ∧ (x.re = 1 ∨ x.re = 4 → 0 < x.v) ∧ (x.re = 3 → x.v = 0) ∧ (x.re = 2 → 0 < x.v) := by
 unfold evOk at h
 simp only [Bool.and_eq_true] at h
 have h2 := h.2
 cases hp : x.put
 ·
  rw [hp] at h2
  simp only [cond_false, Bool.or_eq_true, Bool.and_eq_true, valB, decide_eq_true_eq, beq_iff_eq] at h2
  refine ⟨fun e => ?_, fun _ => rfl, fun e => ?_, fun _ => rfl, ?_, fun e => ?_, fun e => ?_, fun e => ?_⟩ <;> omega
 ·
  rw [hp] at h2
  simp only [cond_true, Bool.or_eq_true, Bool.and_eq_true, valB, decide_eq_true_eq, beq_iff_eq] at h2
  refine ⟨fun _ => rfl, fun e => ?_, fun _ => rfl, fun e => ?_, ?_, fun e => ?_, fun e => ?_, fun e => ?_⟩ <;> omega
theorem story_ev {l : List Ev} (h : storyOk l = true) : ∀ x ∈ l, evOk x = true := by
 unfold storyOk at h
 simp only [Bool.and_eq_true, List.all_eq_true] at h
 exact h.1
theorem times_puts {l : List Ev} (h : ∀ x ∈ l, evOk x = true) (v : Int) : times l v true = cntV (putsF l) v := by
 unfold times cntV putsF
 rw [List.filter_filter]
 congr 1
 refine List.filter_congr fun x hx => ?_
 have h1 := ev_put (h x hx)
 rw [Bool.eq_iff_iff]
 simp only [Bool.and_eq_true, Bool.or_eq_true, beq_iff_eq]
 constructor
 ·
  rintro ⟨⟨hp, hv⟩, hr | hr⟩
  · exact ⟨hv, hr⟩
  · rw [h1.2.1 hr] at hp; cases hp
 ·
  rintro ⟨hv, hr⟩
  exact ⟨⟨h1.1 hr, hv⟩, .inl hr⟩
theorem times_gots {l : List Ev} (h : ∀ x ∈ l, evOk x = true) (v : Int) : times l v false = cntV (gotsF l) v := by
 unfold times cntV gotsF
 rw [List.filter_filter]
 congr 1
 refine List.filter_congr fun x hx => ?_
 have h1 := ev_put (h x hx)
 rw [Bool.eq_iff_iff]
 simp only [Bool.and_eq_true, Bool.or_eq_true, beq_iff_eq]
 constructor
 ·
  rintro ⟨⟨hp, hv⟩, hr | hr⟩
  · rw [h1.1 hr] at hp; cases hp
  · exact ⟨hv, hr⟩
 ·
  rintro ⟨hv, hr⟩
  exact ⟨⟨h1.2.1 hr, hv⟩, .inr hr⟩
theorem hasPutB_eq (l : List Ev) (x : Ev) : hasPutB l x = l.any fun y => y.re == 1 && y.v == x.v && !decide (x.e < y.b) := by
 unfold hasPutB
 rw [List.any_filter]
 congr 1
 funext y
 unfold putQ
 rw [Bool.and_assoc]
theorem iNothing_eq (l : List Ev) : iNothing l = nothingTwice l := by
 unfold iNothing nothingTwice
 cases hok : storyOk l
 · simp
 have hev := story_ev hok
 rw [Bool.true_and, Bool.and_true, Bool.eq_iff_iff]
 simp only [Bool.and_eq_true, Bool.not_eq_true', List.all_eq_true, Bool.or_eq_true, tooOften, List.any_eq_false, decide_eq_true_eq, Nat.not_lt]
 constructor
 ·
  rintro ⟨h1, h2⟩ x hx
  by_cases hr : x.re = 4
  ·
   have hg : x ∈ gotsF l := List.mem_filter.2 ⟨hx, by simp [hr]⟩
   refine .inr ⟨?_, ?_⟩
   · rw [times_gots hev, times_puts hev]; exact h1 x hg
   · have h3 := h2 x hg; rw [hasPutB_eq] at h3; exact h3
  · exact .inl (by simp [hr])
 ·
  intro h1
  refine ⟨fun x hg => ?_, fun x hg => ?_⟩
  ·
   have hx := List.mem_filter.1 hg
   rcases h1 x hx.1 with h2 | h2
   · rw [hx.2] at h2; cases h2
   · rw [times_gots hev, times_puts hev] at h2; exact h2.1
  ·
   have hx := List.mem_filter.1 hg
   rcases h1 x hx.1 with h2 | h2
   · rw [hx.2] at h2; cases h2
   · rw [hasPutB_eq]; exact h2.2

end Go.Proofs.Ytghgfbncijfocaa
