/-
 The program's facts of a story: NothingTwice.
-/
import Derived.Sort.CutIn
import Derived.Test.YtiiaimjlohpemaaGreatRepB
namespace Go.Proofs.YtiiaimjlohpemaaGreat
set_option linter.unusedSimpArgs false
set_option linter.unusedVariables false
open Go.RowKit Go.Shelf Go.Maps
set_option linter.unusedVariables false
attribute [local go_sem] Oper.semAt_some
attribute [local go_sem ↓] Go.wp_at_zero Go.wp_at_succ

set_option maxHeartbeats 400000 in
theorem iahd_any (x y : Ev) (w : World) : Calls Tryz.prog 36 #[.agg #[x.who, x.put, x.v, x.re, x.b, x.e], .agg #[y.who, y.put, y.v, y.re, y.b, y.e]] w (RetBelow (.bool (decide (x.e < y.b))) w) := by
 by_cases h : x.e < y.b
 all_goals
  go_enter Tryz.func36, Tryz.ntmps36
  go_wp2
  go_ret
  exact .mk (by simp [h]) (((Below.refl _ _).alloc (Nat.le_refl _) _).alloc (by simp) _)

def putQ (y z : Ev) : Bool := z.v == y.v && !decide (y.e < z.b)
def hasPutB (l : List Ev) (y : Ev) : Bool := (l.filter fun z => z.re == 1).any (putQ y)

set_option maxRecDepth 100000 in
set_option maxHeartbeats 2000000 in
theorem hasPut_any (l : List Ev) (y : Ev) (A : Option Addr) (n cap : Nat) (w : World) (h : EvsR w A n l) (hn : n ≤ 1048576) :
  Calls Tryz.prog 20 #[.slice A n cap, .agg #[y.who, y.put, y.v, y.re, y.b, y.e]] w (RetBelow (.bool (hasPutB l y)) w) := by
 refine (callsIn_wide (n := 3)).1 ?_
 refine callsIn_of_wp_marks Tryz.func20 rfl trivial ?_ rfl
 simp only [Tryz.ntmps20, List.size_toArray, List.length_cons, List.length_nil, Nat.reduceAdd, Nat.reduceSub, Array.replicate_succ, Array.replicate_zero, List.push_toArray, List.append_toArray, List.nil_append, List.cons_append]
 gi_upto_region 1 with fail
 have hB0 : Below w.heap.size w ((w.alloc (.cells #[y.who, y.put, y.v, y.re, y.b, y.e] 32)).alloc (.cells #[.bool false] 4)) := ((Below.refl _ _).alloc (Nat.le_refl _) _).alloc (by simp) _
 have hy0 : BoxAt ((w.alloc (.cells #[y.who, y.put, y.v, y.re, y.b, y.e] 32)).alloc (.cells #[.bool false] 4)) w.heap.size #[y.who, y.put, y.v, y.re, y.b, y.e] 32 := (BoxAt.new _ _ _).alloc _
 have hx0 : BoxAt ((w.alloc (.cells #[y.who, y.put, y.v, y.re, y.b, y.e] 32)).alloc (.cells #[.bool false] 4)) (w.heap.size + 1) #[.bool false] 4 := BoxAt.new' (by simp)
 have hs0 : ((w.alloc (.cells #[y.who, y.put, y.v, y.re, y.b, y.e] 32)).alloc (.cells #[.bool false] 4)).heap.size = w.heap.size + 2 := by simp
 generalize (w.alloc (.cells #[y.who, y.put, y.v, y.re, y.b, y.e] 32)).alloc (.cells #[.bool false] 4) = W at *
 obtain ⟨X, hX⟩ : ∃ X, w.heap.size + 1 = X := ⟨_, rfl⟩
 obtain ⟨Y, hY⟩ : ∃ Y, w.heap.size = Y := ⟨_, rfl⟩
 rw [hX] at hx0 ⊢
 rw [hY] at hy0 ⊢
 have hYw : w.heap.size ≤ Y := by omega
 have hXY : Y < X := by omega
 have hXW : X < W.heap.size := by omega
 clear hX hY hs0
 gi_wp2_with fail
 refine ⟨trivial, (callsIn_wide.2 (replied_any A n cap 1 W)).mono ?_⟩
 rintro e W5 ⟨rfl, hq5⟩
 have hb5 : Below W.heap.size W W5 := by rw [hq5]; exact ((Below.refl _ _).alloc (Nat.le_refl _) _).alloc (by simp) _
 have hPl : BoxAt W5 W.heap.size #[.slice A n cap] 24 := by rw [hq5]; exact (BoxAt.new _ _ _).alloc _
 have hPr : BoxAt W5 (W.heap.size + 1) #[.int .i64 1] 2 := by rw [hq5]; exact BoxAt.new' (by simp)
 have hs5 : W5.heap.size = W.heap.size + 2 := by rw [hq5]; simp
 clear hq5
 obtain ⟨P, hP⟩ : ∃ P, W.heap.size = P := ⟨_, rfl⟩
 replace hB0 := bstep hB0 hB0.size hb5
 replace hy0 := hy0.below hb5 hy0.lt
 replace hx0 := hx0.below hb5 hx0.lt
 rw [hP] at hPl hPr hs5 hXW ⊢
 have hsP : P + 2 ≤ W5.heap.size := by omega
 clear hb5 hP hs5
 gi_wp2_with fail
 refine wpIn_rep w (P₀ := P) rfl h hn hB0 (by omega) (by omega) hPl hPr
  (fun ys Wy => (BoxAt Wy Y #[y.who, y.put, y.v, y.re, y.b, y.e] 32 ∧ BoxAt Wy X #[.bool false] 4) ∧ ys.any (putQ y) = false)
  (fun ys Wy => BoxAt Wy X #[.bool true] 4 ∧ ys.any (putQ y) = true)
  (OwnFrom.and (OwnFrom.and box_own box_own) (ownFrom_pure _ (fun ys : List Ev => ys.any (putQ y) = false)))
  (OwnFrom.and box_own (ownFrom_pure _ (fun ys : List Ev => ys.any (putQ y) = true)))
  ⟨⟨hy0, hx0⟩, rfl⟩ (fun x E => { tmps := #[.slice A n cap, .agg #[y.who, y.put, y.v, y.re, y.b, y.e], undef, pT Y, pT X, pT E, .slice A n cap, .func (.func 35) #[] #[pT P, pT (P + 1)], .agg #[x.who, x.put, x.v, x.re, x.b, x.e], undef, undef, undef, undef, undef, undef, undef, undef, undef, undef, undef], defers := [] }) ?assign ?body ?done ?stop
 case assign =>
  intro lp x Wy K hK
  unfold evC at hK ⊢
  gi_wp2
  simpa using hK
 case body =>
  rintro lp ys x E Wy hE hxl hxr hB hsz hx ⟨⟨hy, hr⟩, hno⟩ hlen
  have kx := hx.cell
  have ky := hy.cell
  have kr := hr.cell
  have fr := hr.frozen
  unfold evC at kx
  obtain ⟨b_, h1⟩ : ∃ b_, (x.v == y.v) = b_ := ⟨_, rfl⟩
  cases b_
  ·
   gi_wp2
   refine ⟨trivial, ?_⟩
   gi_wp2
   exact ⟨⟨X, by omega, by omega, .refl _ _⟩, ⟨hy, hr⟩, by rw [List.any_append, hno]; simp [putQ, h1]⟩
  ·
   gi_wp2_with fail
   refine ⟨trivial, (callsIn_wide.2 (iahd_any y x _)).mono ?_⟩
   rintro e W2 ⟨rfl, hb2⟩
   have hr2 := hr.below hb2 hr.lt
   have hy2 := hy.below hb2 hy.lt
   have kr := hr2.cell
   have fr := hr2.frozen
   clear kx ky
   obtain ⟨c_, h2⟩ : ∃ c_, decide (y.e < x.b) = c_ := ⟨_, rfl⟩
   have HQ := Lib.hid (show putQ y x = !c_ by unfold putQ; rw [h1, h2]; rfl)
   rw [h2]
   clear h1 h2
   cases c_
   ·
    gi_wp2
    exact ⟨⟨X, by omega, by omega, (But.of_below hb2).set 0 _⟩, hr2.set 0 _, by rw [List.any_append, hno]; simp [HQ.out]⟩
   ·
    gi_wp2
    exact ⟨⟨X, by omega, by omega, .of_below hb2⟩, ⟨hy2, hr2⟩, by rw [List.any_append, hno]; simp [HQ.out]⟩
 case done =>
  rintro D Wd hD hB hsz ⟨⟨hy, hr⟩, hno⟩ hdef
  have hdf := Lib.hid hdef
  have HR := Lib.hid (show hasPutB l y = false from hno)
  have kr := hr.cell
  have fr := hr.frozen
  clear hdef hno
  gi_wp2
  have hd2 := (KeepsOthers.setCell Wd ⟨X, 0, none⟩ (.bool false)).same D _ hdf.out rfl
  refine leavesR (M := w.heap.size) (fun Wg => BoxAt Wg X #[.bool false] 4 ∧ Below w.heap.size w Wg) (fun Wg hG => ?_) (fun Wg D hD hG hs => ⟨box_own (β := Unit) (C := 0) () _ _ (some D) hG.1 (grownBy_putObj' _ D (.deferred none)) (fun r e => by cases e; exact ⟨Nat.zero_le _, _, hs, rfl⟩), hG.2.trans (belowK_b (w := w) (Nat.le_refl _) _ D _ _ hD hs rfl rfl)⟩) [D] _ (by simp) (fun E hE => by obtain rfl : E = D := List.mem_singleton.1 hE; exact ⟨by omega, hd2⟩) ⟨hr.set 0 _, hB.setCell (p := ⟨X, 0, none⟩) (by simp; omega) _⟩
  have kg := hG.1.cell
  exact ⟨.bool false, by simp [results, Tryz.results20, go_sem, kg], .mk (congrArg Value.bool HR.out.symm) hG.2⟩
 case stop =>
  rintro D ys Ws hD hB hsz hpre ⟨hr, hyes⟩ hdef
  have HR := Lib.hid (show hasPutB l y = true by
   obtain ⟨s, hs⟩ := hpre
   unfold hasPutB
   rw [← hs, List.any_append, hyes]; rfl)
  gi_wp2
  refine leavesR (M := w.heap.size) (fun Wg => BoxAt Wg X #[.bool true] 4 ∧ Below w.heap.size w Wg) (fun Wg hG => ?_) (fun Wg D hD hG hs => ⟨box_own (β := Unit) (C := 0) () _ _ (some D) hG.1 (grownBy_putObj' _ D (.deferred none)) (fun r e => by cases e; exact ⟨Nat.zero_le _, _, hs, rfl⟩), hG.2.trans (belowK_b (w := w) (Nat.le_refl _) _ D _ _ hD hs rfl rfl)⟩) [D] _ (by simp) (fun E hE => by obtain rfl : E = D := List.mem_singleton.1 hE; exact ⟨by omega, hdef⟩) ⟨hr, hB⟩
  have kg := hG.1.cell
  exact ⟨.bool true, by simp [results, Tryz.results20, go_sem, kg], .mk (congrArg Value.bool HR.out.symm) hG.2⟩

theorem mark_own {β : Type} {C D : Nat} (hC : D < C) : OwnFrom C (fun (_ : β) W => W.heap[D]? = some (.deferred (some []))) := fun _ W W' row h hg hr =>
 (hg.block D (lt_of_some h) (fun e => by have := (hr D e.symm).1; omega)).trans h
theorem mapE_own {β : Type} {C M : Nat} (hM : M < C) (N : β → Nat) (p : β → (Int → Option Value) → Prop) : OwnFrom C (fun (s : β) W => ∃ f, MapIs W M (N s) f ∧ p s f) := fun s W W' row h hg hr => by
 obtain ⟨f, h1, h2⟩ := h
 exact ⟨f, h1.kept hg (fun e => by have := (hr M e.symm).1; omega), h2⟩
def putsF (l : List Ev) : List Ev := l.filter fun z => z.re == 1
def gotsF (l : List Ev) : List Ev := l.filter fun z => z.re == 4
def cntV (l : List Ev) (v : Int) : Nat := (l.filter fun z => z.v == v).length
theorem cntV_snoc (l : List Ev) (x : Ev) (v : Int) : cntV (l ++ [x]) v = cntV l v + (if v = x.v then 1 else 0) := by
 unfold cntV
 rw [List.filter_append, List.length_append]
 by_cases h : v = x.v
 · simp [h]
 · simp [h, Ne.symm h]
theorem cntV_le (l : List Ev) (v : Int) : cntV l v ≤ l.length := List.length_filter_le _ _
theorem cntV_pre {p l : List Ev} (h : p <+: l) (v : Int) : cntV p v ≤ cntV l v := by
 obtain ⟨s, rfl⟩ := h
 unfold cntV
 rw [List.filter_append, List.length_append]
 omega
def tooOften (l : List Ev) : Bool := (gotsF l).any fun x => decide (cntV (putsF l) x.v < cntV (gotsF l) x.v)

set_option maxRecDepth 100000 in
set_option maxHeartbeats 4000000 in
theorem tooOften_any (l : List Ev) (A : Option Addr) (n cap : Nat) (w : World) (h : EvsR w A n l) (hn : n ≤ 1048576) (hv : ∀ x ∈ l, 0 ≤ x.v ∧ x.v ≤ 1000000) :
  Calls Tryz.prog 18 #[.slice A n cap] w (RetBelow (.bool (tooOften l)) w) := by
 refine (callsIn_wide (n := 3)).1 ?_
 refine callsIn_of_wp_marks Tryz.func18 rfl trivial ?_ rfl
 simp only [Tryz.ntmps18, List.size_toArray, List.length_cons, List.length_nil, Nat.reduceAdd, Nat.reduceSub, Array.replicate_succ, Array.replicate_zero, List.push_toArray, List.append_toArray, List.nil_append, List.cons_append]
 have hmm := @run_makeMap Tryz.prog
 gi_upto_region 2 with fail
 clear hmm
 have hB0 : Below w.heap.size w (((w.alloc (.cells #[.bool false] 4)).alloc (.map #[] 0)).alloc (.cells #[.map (some (w.heap.size + 1))] 46)) := (((Below.refl _ _).alloc (Nat.le_refl _) _).alloc (by simp) _).alloc (by simp; omega) _
 have hx0 : BoxAt (((w.alloc (.cells #[.bool false] 4)).alloc (.map #[] 0)).alloc (.cells #[.map (some (w.heap.size + 1))] 46)) w.heap.size #[.bool false] 4 := ((BoxAt.new _ _ _).alloc _).alloc _
 have hm0 : MapIs (((w.alloc (.cells #[.bool false] 4)).alloc (.map #[] 0)).alloc (.cells #[.map (some (w.heap.size + 1))] 46)) (w.heap.size + 1) 0 (fun _ => none) := by
  have := MapIs.made (w.alloc (.cells #[.bool false] 4))
  rw [World.size_alloc] at this
  exact this.below ((Below.refl _ _).alloc (Nat.le_refl _) _)
 have hy0 : BoxAt (((w.alloc (.cells #[.bool false] 4)).alloc (.map #[] 0)).alloc (.cells #[.map (some (w.heap.size + 1))] 46)) (w.heap.size + 1 + 1) #[.map (some (w.heap.size + 1))] 46 := BoxAt.new' (by simp)
 have hs0 : (((w.alloc (.cells #[.bool false] 4)).alloc (.map #[] 0)).alloc (.cells #[.map (some (w.heap.size + 1))] 46)).heap.size = w.heap.size + 3 := by simp
 generalize (((w.alloc (.cells #[.bool false] 4)).alloc (.map #[] 0)).alloc (.cells #[.map (some (w.heap.size + 1))] 46)) = W at *
 obtain ⟨Y, hY⟩ : ∃ Y, w.heap.size + 1 + 1 = Y := ⟨_, rfl⟩
 rw [hY] at hy0 ⊢
 obtain ⟨M, hM⟩ : ∃ M, w.heap.size + 1 = M := ⟨_, rfl⟩
 rw [hM] at hm0 hy0 ⊢
 obtain ⟨X, hX⟩ : ∃ X, w.heap.size = X := ⟨_, rfl⟩
 rw [hX] at hx0 ⊢
 have hXw : w.heap.size ≤ X := by omega
 have hXM : X < M := by omega
 have hMY : M < Y := by omega
 have hYW : Y < W.heap.size := by omega
 clear hX hY hM hs0
 gi_wp2_with fail
 refine ⟨trivial, (callsIn_wide.2 (replied_any A n cap 1 W)).mono ?_⟩
 rintro e W5 ⟨rfl, hq5⟩
 have hb5 : Below W.heap.size W W5 := by rw [hq5]; exact ((Below.refl _ _).alloc (Nat.le_refl _) _).alloc (by simp) _
 have hPl : BoxAt W5 W.heap.size #[.slice A n cap] 24 := by rw [hq5]; exact (BoxAt.new _ _ _).alloc _
 have hPr : BoxAt W5 (W.heap.size + 1) #[.int .i64 1] 2 := by rw [hq5]; exact BoxAt.new' (by simp)
 have hs5 : W5.heap.size = W.heap.size + 2 := by rw [hq5]; simp
 clear hq5
 obtain ⟨P, hP⟩ : ∃ P, W.heap.size = P := ⟨_, rfl⟩
 replace hB0 := bstep hB0 hB0.size hb5
 replace hm0 := hm0.below hb5
 replace hy0 := hy0.below hb5 hy0.lt
 replace hx0 := hx0.below hb5 hx0.lt
 rw [hP] at hPl hPr hs5 hYW ⊢
 have hsP : P + 2 ≤ W5.heap.size := by omega
 clear hb5 hP hs5
 gi_wp2_with fail
 refine wpIn_rep w (P₀ := P) rfl h hn hB0 (by omega) hsP hPl hPr
  (fun ys Wy => ((BoxAt Wy Y #[.map (some M)] 46 ∧ BoxAt Wy X #[.bool false] 4) ∧ ∃ f, MapIs Wy M ys.length f ∧ ∀ v, (f v).getD (.int .i64 0) = .int .i64 (cntV ys v : Int)))
  (fun ys Wy => False)
  (OwnFrom.and (OwnFrom.and box_own box_own) (mapE_own (by omega) (fun ys : List Ev => ys.length) (fun ys f => ∀ v, (f v).getD (.int .i64 0) = .int .i64 (cntV ys v : Int))))
  (fun _ _ _ _ h _ _ => h)
  ⟨⟨hy0, hx0⟩, _, hm0, fun v => rfl⟩ (fun x E => { tmps := #[.slice A n cap, undef, pT X, pT Y, pT E, undef, .map (some M), .slice A n cap, .func (.func 35) #[] #[pT P, pT (P + 1)], .agg #[x.who, x.put, x.v, x.re, x.b, x.e], undef, undef, undef, undef, undef, undef, undef, undef, undef, undef, undef, undef, undef, undef, undef, undef, undef, undef], defers := [] }) ?assign ?body ?done ?stop
 case assign =>
  intro lp x Wy K hK
  unfold evC at hK ⊢
  gi_wp2
  simpa using hK
 case body =>
  rintro lp ys x E Wy hE hxl hxr hB hsz hx ⟨⟨hy, hr⟩, f, hm, hf⟩ hlen
  have kx := hx.cell
  have ky := hy.cell
  unfold evC at kx
  have hkw := key_wf (hv x hxl).1 (hv x hxl).2
  have hle := cntV_le ys x.v
  have hlk : (Instr.lookup 46 (.map (some M)) (.int .i64 x.v) false).run Tryz.prog Wy = .ok (.int .i64 (cntV ys x.v : Int)) Wy := by rw [hm.look Tryz.underlying46 (zero_i _) hkw, hf]
  obtain ⟨W2, hup, hm2, hb2⟩ := hm.upd Tryz.underlying46 (by unfold maxLen; omega) hkw (.int .i64 ((cntV ys x.v : Int) + 1))
  have wq : IntKind.wrap .i64 ((cntV ys x.v : Int) + 1) = (cntV ys x.v : Int) + 1 := Go.IntWalk.i64_in _ (by omega)
  have HF := Lib.hid (show ∀ v, ((if v = x.v then some (.int .i64 ((cntV ys x.v : Int) + 1)) else f v : Option Value)).getD (.int .i64 0) = .int .i64 (cntV (ys ++ [x]) v : Int) from fun v => by
   rw [cntV_snoc]
   by_cases e : v = x.v
   · subst e; simp
   · rw [if_neg e, hf v, if_neg e]; simp)
  have hyb := hb2.box hy (by omega)
  have hrb := hb2.box hr (by omega)
  clear hm hf hle
  gi_wp2
  exact ⟨⟨M, by omega, by omega, hb2⟩, ⟨hyb, hrb⟩, _, by simpa using hm2, HF.out⟩
 case stop =>
  rintro D ys Ws _ _ _ _ h _
  exact h.elim
 case done =>
  rintro D Wd hD hB hsz ⟨⟨hy, hr⟩, f, hm, hf⟩ hdef
  have HDF := Lib.hid hdef
  clear hdef hB0 hx0 hy0 hm0 hPl hPr
  gi_wp2_with fail
  refine ⟨trivial, (callsIn_wide.2 (replied_any A n cap 4 Wd)).mono ?_⟩
  rintro e W6 ⟨rfl, hq6⟩
  have hb6 : Below Wd.heap.size Wd W6 := by rw [hq6]; exact ((Below.refl _ _).alloc (Nat.le_refl _) _).alloc (by simp) _
  have hQl : BoxAt W6 Wd.heap.size #[.slice A n cap] 24 := by rw [hq6]; exact (BoxAt.new _ _ _).alloc _
  have hQr : BoxAt W6 (Wd.heap.size + 1) #[.int .i64 4] 2 := by rw [hq6]; exact BoxAt.new' (by simp)
  have hs6 : W6.heap.size = Wd.heap.size + 2 := by rw [hq6]; simp
  clear hq6
  obtain ⟨Q, hQ⟩ : ∃ Q, Wd.heap.size = Q := ⟨_, rfl⟩
  have hb := bstep hB hB.size hb6
  replace hm := hm.below hb6
  replace hy := hy.below hb6 hy.lt
  replace hr := hr.below hb6 hr.lt
  have hD1 : D < Wd.heap.size := lt_of_some HDF.out
  have HDG := Lib.hid ((hb6.block D hD1).trans HDF.out)
  rw [hQ] at hQl hQr hs6 hsz hD1 ⊢
  have hsQ : Q + 2 ≤ W6.heap.size := by omega
  clear hb6 hQ hs6 hB
  gi_wp2_with fail
  refine wpIn_rep w (P₀ := Q) rfl h hn hb (by omega) hsQ hQl hQr
   (fun ys Wy => ((BoxAt Wy Y #[.map (some M)] 46 ∧ BoxAt Wy X #[.bool false] 4) ∧ Wy.heap[D]? = some (.deferred (some []))) ∧ ∃ f, MapIs Wy M ((putsF l).length + ys.length) f ∧ ∀ v, cntV ys v ≤ cntV (putsF l) v ∧ (f v).getD (.int .i64 0) = .int .i64 ((cntV (putsF l) v : Int) - (cntV ys v : Int)))
   (fun ys Wy => (BoxAt Wy X #[.bool true] 4 ∧ Wy.heap[D]? = some (.deferred (some []))) ∧ ∃ x ∈ ys, cntV (putsF l) x.v < cntV ys x.v)
   (OwnFrom.and (OwnFrom.and (OwnFrom.and box_own box_own) (mark_own (by omega))) (mapE_own (by omega) (fun ys : List Ev => (putsF l).length + ys.length) (fun ys f => ∀ v, cntV ys v ≤ cntV (putsF l) v ∧ (f v).getD (.int .i64 0) = .int .i64 ((cntV (putsF l) v : Int) - (cntV ys v : Int)))))
   (OwnFrom.and (OwnFrom.and box_own (mark_own (by omega))) (ownFrom_pure _ (fun ys : List Ev => ∃ x ∈ ys, cntV (putsF l) x.v < cntV ys x.v)))
   ⟨⟨⟨hy, hr⟩, HDG.out⟩, f, hm, fun v => ⟨Nat.zero_le _, by rw [hf v]; show _ = Value.int .i64 ((cntV (putsF l) v : Int) - (0 : Nat)); simp [putsF]⟩⟩ (fun x E => { tmps := #[.slice A n cap, undef, pT X, pT Y, undef, pT E, .map (some M), .slice A n cap, .func (.func 35) #[] #[pT P, pT (P + 1)], undef, undef, undef, undef, undef, undef, .slice A n cap, .func (.func 35) #[] #[pT Q, pT (Q + 1)], .agg #[x.who, x.put, x.v, x.re, x.b, x.e], undef, undef, undef, undef, undef, undef, undef, undef, undef, undef], defers := [] }) ?assign ?body ?done ?stop
  case assign =>
   intro lp x Wy K hK
   unfold evC at hK ⊢
   gi_wp2
   simpa using hK
  case body =>
   rintro lp ys x E Wy hE hxl hxr hB hsz hx ⟨⟨⟨hy, hr⟩, hmk⟩, f, hm, hf⟩ hlen
   have kx := hx.cell
   have ky := hy.cell
   have kr := hr.cell
   have fr := hr.frozen
   unfold evC at kx
   have HMK := Lib.hid hmk; clear hmk
   have hkw := key_wf (hv x hxl).1 (hv x hxl).2
   have hle := (hf x.v).1
   have hle2 : cntV (putsF l) x.v ≤ n := by have h1 := cntV_le (putsF l) x.v; have h2 : (putsF l).length ≤ l.length := List.length_filter_le _ _; have h3 := h.1; omega
   have hpn : (putsF l).length ≤ n := by have h2 : (putsF l).length ≤ l.length := List.length_filter_le _ _; have h3 := h.1; omega
   have hlk : (Instr.lookup 46 (.map (some M)) (.int .i64 x.v) false).run Tryz.prog Wy = .ok (.int .i64 ((cntV (putsF l) x.v : Int) - (cntV ys x.v : Int))) Wy := by rw [hm.look Tryz.underlying46 (zero_i _) hkw, (hf x.v).2]
   by_cases hz : cntV (putsF l) x.v = cntV ys x.v
   ·
    have HZ := Lib.hid (show ∃ z ∈ ys ++ [x], cntV (putsF l) z.v < cntV (ys ++ [x]) z.v from ⟨x, by simp, by rw [cntV_snoc]; simp; omega⟩)
    have hz0 : ((cntV (putsF l) x.v : Int) - (cntV ys x.v : Int)) = 0 := by omega
    rw [hz0] at hlk
    clear hm hf hle hz hz0
    gi_wp2
    exact ⟨⟨X, by omega, by omega, (But.refl _ _).set 0 _⟩, ⟨hr.set 0 _, (KeepsOthers.setCell Wy ⟨X, 0, none⟩ (.bool true)).same D _ HMK.out rfl⟩, HZ.out⟩
   ·
    have hz0 : ¬ ((cntV (putsF l) x.v : Int) - (cntV ys x.v : Int)) = 0 := by omega
    obtain ⟨W2, hup, hm2, hb2⟩ := hm.upd Tryz.underlying46 (by unfold maxLen; omega) hkw (.int .i64 ((cntV (putsF l) x.v : Int) - (cntV ys x.v : Int) - 1))
    have wq : IntKind.wrap .i64 ((cntV (putsF l) x.v : Int) - (cntV ys x.v : Int) - 1) = (cntV (putsF l) x.v : Int) - (cntV ys x.v : Int) - 1 := Go.IntWalk.i64_in _ (by omega)
    have HF := Lib.hid (show ∀ v, cntV (ys ++ [x]) v ≤ cntV (putsF l) v ∧ ((if v = x.v then some (.int .i64 ((cntV (putsF l) x.v : Int) - (cntV ys x.v : Int) - 1)) else f v : Option Value)).getD (.int .i64 0) = .int .i64 ((cntV (putsF l) v : Int) - (cntV (ys ++ [x]) v : Int)) from fun v => by
     rw [cntV_snoc]
     have h1 := hf v
     by_cases e : v = x.v
     · subst e; simp; omega
     · rw [if_neg e, if_neg e]; exact ⟨by omega, by rw [h1.2]; simp⟩)
    have hyb := hb2.box hy (by omega)
    have hrb := hb2.box hr (by omega)
    have HMB := Lib.hid ((hb2.block D (lt_of_some HMK.out) (by omega)).trans HMK.out)
    clear hm hf hle hz
    gi_wp2
    exact ⟨⟨M, by omega, by omega, hb2⟩, ⟨⟨hyb, hrb⟩, HMB.out⟩, _, by simpa [Nat.add_assoc] using hm2, HF.out⟩
  case done =>
   rintro D2 We hD2 hB hsz ⟨⟨⟨hy, hr⟩, hmk⟩, f, hm, hf⟩ hdef
   have HDF2 := Lib.hid hdef
   have HMK := Lib.hid hmk
   have HR := Lib.hid (show tooOften l = false by
    unfold tooOften
    rw [List.any_eq_false]
    intro x hx h1
    have := (hf x.v).1
    simp only [decide_eq_true_eq] at h1
    unfold gotsF at h1
    omega)
   have kr := hr.cell
   have fr := hr.frozen
   clear hdef hmk hm hf hQl hQr
   gi_wp2
   have hd1 := (KeepsOthers.setCell We ⟨X, 0, none⟩ (.bool false)).same D _ HMK.out rfl
   have hd2 := (KeepsOthers.setCell We ⟨X, 0, none⟩ (.bool false)).same D2 _ HDF2.out rfl
   refine leavesR (M := w.heap.size) (fun Wg => BoxAt Wg X #[.bool false] 4 ∧ Below w.heap.size w Wg) (fun Wg hG => ?_) (fun Wg D hD hG hs => ⟨box_own (β := Unit) (C := 0) () _ _ (some D) hG.1 (grownBy_putObj' _ D (.deferred none)) (fun r e => by cases e; exact ⟨Nat.zero_le _, _, hs, rfl⟩), hG.2.trans (belowK_b (w := w) (Nat.le_refl _) _ D _ _ hD hs rfl rfl)⟩) [D2, D] _ (by simp; omega) (fun E hE => by rcases List.mem_cons.1 hE with rfl | hE; exact ⟨by omega, hd2⟩; obtain rfl : E = D := List.mem_singleton.1 hE; exact ⟨by omega, hd1⟩) ⟨hr.set 0 _, hB.setCell (p := ⟨X, 0, none⟩) (by simp; omega) _⟩
   have kg := hG.1.cell
   exact ⟨.bool false, by simp [results, Tryz.results18, go_sem, kg], .mk (congrArg Value.bool HR.out.symm) hG.2⟩
  case stop =>
   rintro D2 ys We hD2 hB hsz hpre ⟨⟨hr, hmk⟩, x, hxy, hlt⟩ hdef
   have HR := Lib.hid (show tooOften l = true by
    unfold tooOften
    rw [List.any_eq_true]
    have h1 := cntV_pre hpre x.v
    refine ⟨x, ?_, by simp only [decide_eq_true_eq]; unfold gotsF; omega⟩
    obtain ⟨s, hs⟩ := hpre
    unfold gotsF
    rw [← hs]
    exact List.mem_append_left _ hxy)
   gi_wp2
   refine leavesR (M := w.heap.size) (fun Wg => BoxAt Wg X #[.bool true] 4 ∧ Below w.heap.size w Wg) (fun Wg hG => ?_) (fun Wg D hD hG hs => ⟨box_own (β := Unit) (C := 0) () _ _ (some D) hG.1 (grownBy_putObj' _ D (.deferred none)) (fun r e => by cases e; exact ⟨Nat.zero_le _, _, hs, rfl⟩), hG.2.trans (belowK_b (w := w) (Nat.le_refl _) _ D _ _ hD hs rfl rfl)⟩) [D2, D] _ (by simp; omega) (fun E hE => by rcases List.mem_cons.1 hE with rfl | hE; exact ⟨by omega, hdef⟩; obtain rfl : E = D := List.mem_singleton.1 hE; exact ⟨by omega, hmk⟩) ⟨hr, hB⟩
   have kg := hG.1.cell
   exact ⟨.bool true, by simp [results, Tryz.results18, go_sem, kg], .mk (congrArg Value.bool HR.out.symm) hG.2⟩
end Go.Proofs.YtiiaimjlohpemaaGreat

/-
 The program's facts of a story: NothingTwice.
-/
namespace Go.Proofs.YtiiaimjlohpemaaGreat
set_option linter.unusedSimpArgs false
set_option linter.unusedVariables false
open Go.RowKit Go.Shelf Go.Maps
set_option linter.unusedVariables false
attribute [local go_sem] Oper.semAt_some
attribute [local go_sem ↓] Go.wp_at_zero Go.wp_at_succ

theorem story_vals {l : List Ev} (h : storyOk l = true) : ∀ x ∈ l, 0 ≤ x.v ∧ x.v ≤ 1000000 := fun x hx => by
 unfold storyOk at h
 simp only [Bool.and_eq_true, List.all_eq_true] at h
 have h1 := h.1 x hx
 unfold evOk at h1
 simp only [Bool.and_eq_true] at h1
 have h2 := h1.2
 cases hp : x.put
 ·
  rw [hp] at h2
  simp only [cond_false, Bool.or_eq_true, Bool.and_eq_true, valB, decide_eq_true_eq, beq_iff_eq] at h2
  omega
 ·
  rw [hp] at h2
  simp only [cond_true, Bool.and_eq_true, valB, decide_eq_true_eq] at h2
  omega
def iNothing (l : List Ev) : Bool := storyOk l && !tooOften l && (gotsF l).all (hasPutB l)

set_option maxRecDepth 100000 in
set_option maxHeartbeats 4000000 in
theorem inothing_any (l : List Ev) (A : Option Addr) (n cap : Nat) (w : World) (h : EvsR w A n l) (hn : n ≤ 1048576) :
  Calls Tryz.prog 6 #[.slice A n cap] w (RetBelow (.bool (iNothing l)) w) := by
 refine (callsIn_wide (n := 3)).1 ?_
 refine callsIn_of_wp_marks Tryz.func6 rfl trivial ?_ rfl
 simp only [Tryz.ntmps6, List.size_toArray, List.length_cons, List.length_nil, Nat.reduceAdd, Nat.reduceSub, Array.replicate_succ, Array.replicate_zero, List.push_toArray, List.append_toArray, List.nil_append, List.cons_append]
 gi_upto_region 1 with fail
 have hB0 : Below w.heap.size w ((w.alloc (.cells #[.slice A n cap] 24)).alloc (.cells #[.bool false] 4)) := ((Below.refl _ _).alloc (Nat.le_refl _) _).alloc (by simp) _
 have hy0 : BoxAt ((w.alloc (.cells #[.slice A n cap] 24)).alloc (.cells #[.bool false] 4)) w.heap.size #[.slice A n cap] 24 := (BoxAt.new _ _ _).alloc _
 have hx0 : BoxAt ((w.alloc (.cells #[.slice A n cap] 24)).alloc (.cells #[.bool false] 4)) (w.heap.size + 1) #[.bool false] 4 := BoxAt.new' (by simp)
 have hs0 : ((w.alloc (.cells #[.slice A n cap] 24)).alloc (.cells #[.bool false] 4)).heap.size = w.heap.size + 2 := by simp
 generalize (w.alloc (.cells #[.slice A n cap] 24)).alloc (.cells #[.bool false] 4) = W at *
 obtain ⟨X, hX⟩ : ∃ X, w.heap.size + 1 = X := ⟨_, rfl⟩
 obtain ⟨Y, hY⟩ : ∃ Y, w.heap.size = Y := ⟨_, rfl⟩
 rw [hX] at hx0 ⊢
 rw [hY] at hy0 ⊢
 have hYw : w.heap.size ≤ Y := by omega
 have hXY : Y < X := by omega
 have hXW : X < W.heap.size := by omega
 clear hX hY hs0
 have ky := hy0.cell
 gi_wp2_with fail
 refine ⟨trivial, (callsIn_wide.2 (istory_any l A n cap W (h.below hB0) hn)).mono ?_⟩
 rintro e W1 ⟨rfl, hb1⟩
 replace hB0 := bstep hB0 hB0.size hb1
 replace hy0 := hy0.below hb1 hy0.lt
 replace hx0 := hx0.below hb1 hx0.lt
 replace hXW : X < W1.heap.size := hx0.lt
 clear hb1 ky
 have ky := hy0.cell
 have kx := hx0.cell
 have fx := hx0.frozen
 cases hok : storyOk l
 ·
  have HR := Lib.hid (show iNothing l = false by unfold iNothing; rw [hok]; rfl)
  clear hok
  gi_wp2
  refine ⟨trivial, ?_⟩
  gi_wp2
  have kg := (hx0.set 0 (.bool false)).cell
  exact ⟨.bool false, by simp [results, Tryz.results6, go_sem, kg], .mk (congrArg Value.bool HR.out.symm) (hB0.setCell (p := ⟨X, 0, none⟩) (by simp; omega) _)⟩
 have hv := story_vals hok
 gi_wp2_with fail
 refine ⟨trivial, (callsIn_wide.2 (tooOften_any l A n cap W1 (h.below hB0) hn hv)).mono ?_⟩
 rintro e W2 ⟨rfl, hb1⟩
 replace hB0 := bstep hB0 hB0.size hb1
 replace hy0 := hy0.below hb1 hy0.lt
 replace hx0 := hx0.below hb1 hx0.lt
 replace hXW : X < W2.heap.size := hx0.lt
 clear hb1 ky kx fx
 have ky := hy0.cell
 have kx := hx0.cell
 have fx := hx0.frozen
 cases hto : tooOften l
 case true =>
  have HR := Lib.hid (show iNothing l = false by unfold iNothing; rw [hok, hto]; rfl)
  clear hok hto
  gi_wp2
  have kg := (hx0.set 0 (.bool false)).cell
  exact ⟨.bool false, by simp [results, Tryz.results6, go_sem, kg], .mk (congrArg Value.bool HR.out.symm) (hB0.setCell (p := ⟨X, 0, none⟩) (by simp; omega) _)⟩
 have HI := Lib.hid (show iNothing l = (gotsF l).all (hasPutB l) by unfold iNothing; rw [hok, hto]; rfl)
 clear hok hto
 gi_wp2_with fail
 refine ⟨trivial, (callsIn_wide.2 (replied_any A n cap 4 W2)).mono ?_⟩
 rintro e W5 ⟨rfl, hq5⟩
 have hb5 : Below W2.heap.size W2 W5 := by rw [hq5]; exact ((Below.refl _ _).alloc (Nat.le_refl _) _).alloc (by simp) _
 have hPl : BoxAt W5 W2.heap.size #[.slice A n cap] 24 := by rw [hq5]; exact (BoxAt.new _ _ _).alloc _
 have hPr : BoxAt W5 (W2.heap.size + 1) #[.int .i64 4] 2 := by rw [hq5]; exact BoxAt.new' (by simp)
 have hs5 : W5.heap.size = W2.heap.size + 2 := by rw [hq5]; simp
 clear hq5
 obtain ⟨P, hP⟩ : ∃ P, W2.heap.size = P := ⟨_, rfl⟩
 replace hB0 := bstep hB0 hB0.size hb5
 replace hy0 := hy0.below hb5 hy0.lt
 replace hx0 := hx0.below hb5 hx0.lt
 rw [hP] at hPl hPr hs5 hXW ⊢
 have hsP : P + 2 ≤ W5.heap.size := by omega
 clear hb5 hP hs5 ky kx fx
 gi_wp2_with fail
 refine wpIn_rep w (P₀ := P) rfl h hn hB0 (by omega) hsP hPl hPr
  (fun ys Wy => (BoxAt Wy Y #[.slice A n cap] 24 ∧ BoxAt Wy X #[.bool false] 4) ∧ ys.all (hasPutB l) = true)
  (fun ys Wy => BoxAt Wy X #[.bool false] 4 ∧ ys.all (hasPutB l) = false)
  (OwnFrom.and (OwnFrom.and box_own box_own) (ownFrom_pure _ (fun ys : List Ev => ys.all (hasPutB l) = true)))
  (OwnFrom.and box_own (ownFrom_pure _ (fun ys : List Ev => ys.all (hasPutB l) = false)))
  ⟨⟨hy0, hx0⟩, rfl⟩ (fun x E => { tmps := #[.slice A n cap, pT Y, pT X, pT E, .slice A n cap, .bool true, .bool false, .bool false, .slice A n cap, .bool false, .bool false, .slice A n cap, .func (.func 35) #[] #[pT P, pT (P + 1)], .agg #[x.who, x.put, x.v, x.re, x.b, x.e], undef, undef, undef, undef], defers := [] }) ?assign ?body ?done ?stop
 case assign =>
  intro lp x Wy K hK
  unfold evC at hK ⊢
  gi_wp2
  simpa using hK
 case body =>
  rintro lp ys x E Wy hE hxl hxr hB hsz hx ⟨⟨hy, hr⟩, hal⟩ hlen
  have kx := hx.cell
  have ky := hy.cell
  unfold evC at kx
  gi_wp2_with fail
  refine ⟨trivial, (callsIn_wide.2 (hasPut_any l x A n cap Wy (h.below hB) hn)).mono ?_⟩
  rintro e W3 ⟨rfl, hb3⟩
  have hr3 := hr.below hb3 hr.lt
  have hy3 := hy.below hb3 hy.lt
  have kr := hr3.cell
  have fr := hr3.frozen
  clear kx ky
  cases hp : hasPutB l x
  ·
   have HA := Lib.hid (show (ys ++ [x]).all (hasPutB l) = false by rw [List.all_append, hal]; simp [hp])
   clear hal hp
   gi_wp2
   exact ⟨⟨X, by omega, by omega, (But.of_below hb3).set 0 _⟩, hr3.set 0 _, HA.out⟩
  ·
   have HA := Lib.hid (show (ys ++ [x]).all (hasPutB l) = true by rw [List.all_append, hal]; simp [hp])
   clear hal hp
   gi_wp2
   exact ⟨⟨X, by omega, by omega, .of_below hb3⟩, ⟨hy3, hr3⟩, HA.out⟩
 case done =>
  rintro D Wd hD hB hsz ⟨⟨hy, hr⟩, hal⟩ hdef
  have HDF := Lib.hid hdef
  have HR := Lib.hid (show iNothing l = true by rw [HI.out]; exact hal)
  have kr := hr.cell
  have fr := hr.frozen
  clear hdef hal
  gi_wp2
  have hd2 := (KeepsOthers.setCell Wd ⟨X, 0, none⟩ (.bool true)).same D _ HDF.out rfl
  refine leavesR (M := w.heap.size) (fun Wg => BoxAt Wg X #[.bool true] 4 ∧ Below w.heap.size w Wg) (fun Wg hG => ?_) (fun Wg D hD hG hs => ⟨box_own (β := Unit) (C := 0) () _ _ (some D) hG.1 (grownBy_putObj' _ D (.deferred none)) (fun r e => by cases e; exact ⟨Nat.zero_le _, _, hs, rfl⟩), hG.2.trans (belowK_b (w := w) (Nat.le_refl _) _ D _ _ hD hs rfl rfl)⟩) [D] _ (by simp) (fun E hE => by obtain rfl : E = D := List.mem_singleton.1 hE; exact ⟨by omega, hd2⟩) ⟨hr.set 0 _, hB.setCell (p := ⟨X, 0, none⟩) (by simp; omega) _⟩
  have kg := hG.1.cell
  exact ⟨.bool true, by simp [results, Tryz.results6, go_sem, kg], .mk (congrArg Value.bool HR.out.symm) hG.2⟩
 case stop =>
  rintro D ys Ws hD hB hsz hpre ⟨hr, hal⟩ hdef
  have HR := Lib.hid (show iNothing l = false by
   rw [HI.out]
   obtain ⟨s, hs⟩ := hpre
   unfold gotsF
   rw [← hs, List.all_append, hal]; rfl)
  clear hal
  gi_wp2
  refine leavesR (M := w.heap.size) (fun Wg => BoxAt Wg X #[.bool false] 4 ∧ Below w.heap.size w Wg) (fun Wg hG => ?_) (fun Wg D hD hG hs => ⟨box_own (β := Unit) (C := 0) () _ _ (some D) hG.1 (grownBy_putObj' _ D (.deferred none)) (fun r e => by cases e; exact ⟨Nat.zero_le _, _, hs, rfl⟩), hG.2.trans (belowK_b (w := w) (Nat.le_refl _) _ D _ _ hD hs rfl rfl)⟩) [D] _ (by simp) (fun E hE => by obtain rfl : E = D := List.mem_singleton.1 hE; exact ⟨by omega, hdef⟩) ⟨hr, hB⟩
  have kg := hG.1.cell
  exact ⟨.bool false, by simp [results, Tryz.results6, go_sem, kg], .mk (congrArg Value.bool HR.out.symm) hG.2⟩

/-! ### What it answers -/

theorem ev_put {x : Ev} (h : evOk x = true) : (x.re = 1 → x.put = true) ∧ (x.re = 4 → x.put = false) ∧ (x.re = 1 ∨ x.re = 2 → x.put = true) ∧ (x.re = 3 ∨ x.re = 4 → x.put = false) ∧ (x.re = 1 ∨ x.re = 2 ∨ x.re = 3 ∨ x.re = 4) ∧ (x.re = 1 ∨ x.re = 4 → 0 < x.v) ∧ (x.re = 3 → x.v = 0) ∧ (x.re = 2 → 0 < x.v) := by
 unfold evOk at h
 simp only [Bool.and_eq_true] at h
 have h2 := h.2
 cases hp : x.put
 ·
  rw [hp] at h2
  simp only [cond_false, Bool.or_eq_true, Bool.and_eq_true, valB, decide_eq_true_eq, beq_iff_eq] at h2
  refine ⟨fun e => ?_, fun _ => rfl, fun e => ?_, fun _ => rfl, ?_, fun e => ?_, fun e => ?_, fun e => ?_⟩ <;> omega
 ·
  rw [hp] at h2
  simp only [cond_true, Bool.or_eq_true, Bool.and_eq_true, valB, decide_eq_true_eq, beq_iff_eq] at h2
  refine ⟨fun _ => rfl, fun e => ?_, fun _ => rfl, fun e => ?_, ?_, fun e => ?_, fun e => ?_, fun e => ?_⟩ <;> omega
theorem story_ev {l : List Ev} (h : storyOk l = true) : ∀ x ∈ l, evOk x = true := by
 unfold storyOk at h
 simp only [Bool.and_eq_true, List.all_eq_true] at h
 exact h.1
theorem times_puts {l : List Ev} (h : ∀ x ∈ l, evOk x = true) (v : Int) : times l v true = cntV (putsF l) v := by
 unfold times cntV putsF
 rw [List.filter_filter]
 congr 1
 refine List.filter_congr fun x hx => ?_
 have h1 := ev_put (h x hx)
 rw [Bool.eq_iff_iff]
 simp only [Bool.and_eq_true, Bool.or_eq_true, beq_iff_eq]
 constructor
 ·
  rintro ⟨⟨hp, hv⟩, hr | hr⟩
  · exact ⟨hv, hr⟩
  · rw [h1.2.1 hr] at hp; cases hp
 ·
  rintro ⟨hv, hr⟩
  exact ⟨⟨h1.1 hr, hv⟩, .inl hr⟩
theorem times_gots {l : List Ev} (h : ∀ x ∈ l, evOk x = true) (v : Int) : times l v false = cntV (gotsF l) v := by
 unfold times cntV gotsF
 rw [List.filter_filter]
 congr 1
 refine List.filter_congr fun x hx => ?_
 have h1 := ev_put (h x hx)
 rw [Bool.eq_iff_iff]
 simp only [Bool.and_eq_true, Bool.or_eq_true, beq_iff_eq]
 constructor
 ·
  rintro ⟨⟨hp, hv⟩, hr | hr⟩
  · rw [h1.1 hr] at hp; cases hp
  · exact ⟨hv, hr⟩
 ·
  rintro ⟨hv, hr⟩
  exact ⟨⟨h1.2.1 hr, hv⟩, .inr hr⟩
theorem hasPutB_eq (l : List Ev) (x : Ev) : hasPutB l x = l.any fun y => y.re == 1 && y.v == x.v && !decide (x.e < y.b) := by
 unfold hasPutB
 rw [List.any_filter]
 congr 1
 funext y
 unfold putQ
 rw [Bool.and_assoc]
theorem iNothing_eq (l : List Ev) : iNothing l = nothingTwice l := by
 unfold iNothing nothingTwice
 cases hok : storyOk l
 · simp
 have hev := story_ev hok
 rw [Bool.true_and, Bool.and_true, Bool.eq_iff_iff]
 simp only [Bool.and_eq_true, Bool.not_eq_true', List.all_eq_true, Bool.or_eq_true, tooOften, List.any_eq_false, decide_eq_true_eq, Nat.not_lt]
 constructor
 ·
  rintro ⟨h1, h2⟩ x hx
  by_cases hr : x.re = 4
  ·
   have hg : x ∈ gotsF l := List.mem_filter.2 ⟨hx, by simp [hr]⟩
   refine .inr ⟨?_, ?_⟩
   · rw [times_gots hev, times_puts hev]; exact h1 x hg
   · have h3 := h2 x hg; rw [hasPutB_eq] at h3; exact h3
  · exact .inl (by simp [hr])
 ·
  intro h1
  refine ⟨fun x hg => ?_, fun x hg => ?_⟩
  ·
   have hx := List.mem_filter.1 hg
   rcases h1 x hx.1 with h2 | h2
   · rw [hx.2] at h2; cases h2
   · rw [times_gots hev, times_puts hev] at h2; exact h2.1
  ·
   have hx := List.mem_filter.1 hg
   rcases h1 x hx.1 with h2 | h2
   · rw [hx.2] at h2; cases h2
   · rw [hasPutB_eq]; exact h2.2

end Go.Proofs.YtiiaimjlohpemaaGreat

