/-
 What the program's facts ask of maps: isAnyTwice, takesByValue.
-/
import Derived.Laws.StructEq
import Derived.Test.YtiiaimjlohpemaaGreatFacJ
namespace Go.Proofs.YtiiaimjlohpemaaGreat
set_option linter.unusedSimpArgs false
set_option linter.unusedVariables false
open Go.RowKit Go.Shelf Go.Maps
set_option linter.unusedVariables false
attribute [local go_sem] Oper.semAt_some
attribute [local go_sem ↓] Go.wp_at_zero Go.wp_at_succ

/-- The last of a list that has the value. -/
def takeOf (l : List Ev) (v : Int) : Option Ev := l.reverse.find? fun x => x.v == v
theorem takeOf_snoc (l : List Ev) (x : Ev) (v : Int) : takeOf (l ++ [x]) v = if v = x.v then some x else takeOf l v := by
 unfold takeOf
 rw [List.reverse_append, List.reverse_singleton, List.singleton_append, List.find?_cons]
 by_cases h : v = x.v
 · simp [h]
 · rw [if_neg h, show (x.v == v) = false by simp; exact fun e => h e.symm]
theorem takeOf_mem {l : List Ev} {v : Int} {x : Ev} (h : takeOf l v = some x) : x ∈ l ∧ x.v = v := by
 unfold takeOf at h
 have h1 := List.mem_of_find?_eq_some h
 have h2 := List.find?_some h
 exact ⟨by simpa using h1, by simpa using h2⟩
theorem takeOf_none {l : List Ev} {v : Int} (h : takeOf l v = none) : ∀ x ∈ l, x.v ≠ v := fun x hx e => by
 unfold takeOf at h
 have := (List.find?_eq_none.1 h) x (by simpa using hx)
 simp [e] at this

/-- A map from values to events is handed back. -/
def RetMap (l : List Ev) (w : World) (e : Ending) (w' : World) : Prop := ∃ M n f, e = .returned (.map (some M)) ∧ w.heap.size ≤ M ∧ MapIs w' M n f ∧ (∀ v, f v = (takeOf (gotsF l) v).map fun x => Value.agg (evC x)) ∧ Below w.heap.size w w'

set_option maxRecDepth 100000 in
set_option maxHeartbeats 4000000 in
theorem takes_any (l : List Ev) (A : Option Addr) (n cap : Nat) (w : World) (h : EvsR w A n l) (hn : n ≤ 1048576) (hv : ∀ x ∈ l, 0 ≤ x.v ∧ x.v ≤ 1000000) :
  Calls Tryz.prog 37 #[.slice A n cap] w (RetMap l w) := by
 refine (callsIn_wide (n := 3)).1 ?_
 refine callsIn_of_wp_marks Tryz.func37 rfl trivial ?_ rfl
 simp only [Tryz.ntmps37, List.size_toArray, List.length_cons, List.length_nil, Nat.reduceAdd, Nat.reduceSub, Array.replicate_succ, Array.replicate_zero, List.push_toArray, List.append_toArray, List.nil_append, List.cons_append]
 have hmm := @run_makeMap Tryz.prog
 gi_upto_region 2 with fail
 clear hmm
 have hB0 : Below w.heap.size w ((w.alloc (.map #[] 0)).alloc (.cells #[.map (some w.heap.size)] 49)) := ((Below.refl _ _).alloc (Nat.le_refl _) _).alloc (by simp) _
 have hm0 : MapIs ((w.alloc (.map #[] 0)).alloc (.cells #[.map (some w.heap.size)] 49)) w.heap.size 0 (fun _ => none) := (MapIs.made w).below ((Below.refl _ _).alloc (Nat.le_refl _) _)
 have hy0 : BoxAt ((w.alloc (.map #[] 0)).alloc (.cells #[.map (some w.heap.size)] 49)) (w.heap.size + 1) #[.map (some w.heap.size)] 49 := BoxAt.new' (by simp)
 have hs0 : ((w.alloc (.map #[] 0)).alloc (.cells #[.map (some w.heap.size)] 49)).heap.size = w.heap.size + 2 := by simp
 generalize ((w.alloc (.map #[] 0)).alloc (.cells #[.map (some w.heap.size)] 49)) = W at *
 obtain ⟨Y, hY⟩ : ∃ Y, w.heap.size + 1 = Y := ⟨_, rfl⟩
 rw [hY] at hy0 ⊢
 obtain ⟨M, hM⟩ : ∃ M, w.heap.size = M := ⟨_, rfl⟩
 rw [hM] at hm0 hy0 ⊢
 have hMw : w.heap.size ≤ M := by omega
 have hMY : M < Y := by omega
 have hYW : Y < W.heap.size := by omega
 clear hY hM hs0
 gi_wp2_with fail
 refine ⟨trivial, (callsIn_wide.2 (replied_any A n cap 4 W)).mono ?_⟩
 rintro e W5 ⟨rfl, hq5⟩
 have hb5 : Below W.heap.size W W5 := by rw [hq5]; exact ((Below.refl _ _).alloc (Nat.le_refl _) _).alloc (by simp) _
 have hPl : BoxAt W5 W.heap.size #[.slice A n cap] 24 := by rw [hq5]; exact (BoxAt.new _ _ _).alloc _
 have hPr : BoxAt W5 (W.heap.size + 1) #[.int .i64 4] 2 := by rw [hq5]; exact BoxAt.new' (by simp)
 have hs5 : W5.heap.size = W.heap.size + 2 := by rw [hq5]; simp
 clear hq5
 obtain ⟨P, hP⟩ : ∃ P, W.heap.size = P := ⟨_, rfl⟩
 replace hB0 := bstep hB0 hB0.size hb5
 replace hm0 := hm0.below hb5
 replace hy0 := hy0.below hb5 hy0.lt
 rw [hP] at hPl hPr hs5 hYW ⊢
 have hsP : P + 2 ≤ W5.heap.size := by omega
 clear hb5 hP hs5
 gi_wp2_with fail
 refine wpIn_rep w (P₀ := P) rfl h hn hB0 (by omega) hsP hPl hPr
  (fun ys Wy => BoxAt Wy Y #[.map (some M)] 49 ∧ ∃ f, MapIs Wy M ys.length f ∧ ∀ v, f v = (takeOf ys v).map fun x => Value.agg (evC x))
  (fun ys Wy => False)
  (OwnFrom.and box_own (mapE_own (by omega) (fun ys : List Ev => ys.length) (fun ys f => ∀ v, f v = (takeOf ys v).map fun x => Value.agg (evC x))))
  (fun _ _ _ _ h _ _ => h)
  ⟨hy0, _, hm0, fun v => rfl⟩ (fun x E => { tmps := #[.slice A n cap, undef, .map none, pT Y, pT E, .map (some M), .slice A n cap, .func (.func 35) #[] #[pT P, pT (P + 1)], .agg #[x.who, x.put, x.v, x.re, x.b, x.e], undef, undef, undef, undef, undef], defers := [] }) ?assign ?body ?done ?stop
 case assign =>
  intro lp x Wy K hK
  unfold evC at hK ⊢
  gi_wp2
  simpa using hK
 case body =>
  rintro lp ys x E Wy hE hxl hxr hB hsz hx ⟨hy, f, hm, hf⟩ hlen
  have kx := hx.cell
  have ky := hy.cell
  unfold evC at kx
  have hkw := key_wf (hv x hxl).1 (hv x hxl).2
  obtain ⟨W2, hup, hm2, hb2⟩ := hm.upd Tryz.underlying49 (by unfold maxLen; omega) hkw (.agg (evC x))
  have HF := Lib.hid (show ∀ v, (if v = x.v then some (Value.agg (evC x)) else f v) = (takeOf (ys ++ [x]) v).map fun x => Value.agg (evC x) from fun v => by
   rw [takeOf_snoc]
   by_cases e : v = x.v
   · rw [if_pos e, if_pos e]; rfl
   · rw [if_neg e, if_neg e]; exact hf v)
  have hyb := hb2.box hy (by omega)
  unfold evC at hup
  clear hm hf
  gi_wp2
  exact ⟨⟨M, by omega, by omega, hb2⟩, hyb, _, by simpa using hm2, HF.out⟩
 case stop =>
  rintro D ys Ws _ _ _ _ h _
  exact h.elim
 case done =>
  rintro D Wd hD hB hsz ⟨hy, f, hm, hf⟩ hdef
  have HDF := Lib.hid hdef
  have HM := Lib.hid hm
  have HF := Lib.hid hf
  have ky := hy.cell
  clear hdef hm hf
  gi_wp2
  refine leavesR (M := w.heap.size) (fun Wg => (∃ n f, MapIs Wg M n f ∧ ∀ v, f v = (takeOf (gotsF l) v).map fun x => Value.agg (evC x)) ∧ Below w.heap.size w Wg ∧ Y < Wg.heap.size) (fun Wg hG => ?_) (fun Wg D hD hG hs => ?_) [D] _ (by simp) (fun E hE => by obtain rfl : E = D := List.mem_singleton.1 hE; exact ⟨by omega, HDF.out⟩) ⟨⟨_, f, HM.out, HF.out⟩, hB, by omega⟩
  ·
   obtain ⟨⟨n', f', h1, h2⟩, h3, _⟩ := hG
   exact ⟨_, results_tmp rfl _ _ _, M, n', f', rfl, hMw, h1, h2, h3⟩
  ·
   obtain ⟨⟨n', f', h1, h2⟩, h3, h4⟩ := hG
   refine ⟨⟨n', f', h1.kept (grownBy_putObj' _ D (.deferred none)) (fun e => ?_), h2⟩, h3.trans (belowK_b (w := w) (Nat.le_refl _) _ D _ _ hD hs rfl rfl), by simpa using h4⟩
   injection e with e
   obtain ⟨D', ⟨es, clock, hb, _⟩, _⟩ := h1
   rw [e, hs] at hb
   cases hb
def anyV (l : List Ev) (v : Int) : Bool := l.any fun z => z.v == v
theorem anyV_snoc (l : List Ev) (x : Ev) (v : Int) : anyV (l ++ [x]) v = (anyV l v || decide (v = x.v)) := by
 unfold anyV
 rw [List.any_append]
 by_cases h : v = x.v
 · simp [h]
 ·
  rw [show decide (v = x.v) = false by simp [h]]
  simp only [List.any_cons, List.any_nil, Bool.or_false]
  simp only [show (x.v == v) = false by simp; exact fun e => h e.symm, Bool.or_false]
theorem nodup_snoc {l : List Ev} {x : Ev} : ((l ++ [x]).map Ev.v).Nodup ↔ (l.map Ev.v).Nodup ∧ anyV l x.v = false := by
 rw [List.map_append, List.map_singleton, List.nodup_append]
 unfold anyV
 rw [List.any_eq_false]
 constructor
 ·
  rintro ⟨h1, _, h3⟩
  exact ⟨h1, fun z hz e => h3 z.v (List.mem_map_of_mem hz) x.v (by simp) (by simpa using e)⟩
 ·
  rintro ⟨h1, h2⟩
  refine ⟨h1, by simp, fun a ha b hb e => ?_⟩
  obtain ⟨z, hz, rfl⟩ := List.mem_map.1 ha
  simp only [List.mem_singleton] at hb
  exact h2 z hz (by simp [e, hb])
theorem nodup_pre {p l : List Ev} (h : p <+: l) (hn : ¬ (p.map Ev.v).Nodup) : ¬ (l.map Ev.v).Nodup := fun hl => hn (by
 obtain ⟨t, rfl⟩ := h
 rw [List.map_append, List.nodup_append] at hl
 exact hl.1)
def anyTwice (l : List Ev) : Bool := !decide ((putsF l).map Ev.v).Nodup || !decide ((gotsF l).map Ev.v).Nodup
theorem zero_b (w : World) : (zeroValue 4).run Tryz.prog w = .ok (.bool false) w := by kernel_rfl
def roundR (i : Nat) : Int := if i = 0 then 1 else 4

set_option maxRecDepth 100000 in
set_option maxHeartbeats 4000000 in
theorem anyTwice_any (l : List Ev) (A : Option Addr) (n cap : Nat) (w : World) (h : EvsR w A n l) (hn : n ≤ 1048576) (hv : ∀ x ∈ l, 0 ≤ x.v ∧ x.v ≤ 1000000) :
  Calls Tryz.prog 21 #[.slice A n cap] w (RetBelow (.bool (anyTwice l)) w) := by
 refine (callsIn_wide (n := 3)).1 ?_
 refine callsIn_of_wp_marks Tryz.func21 rfl trivial ?_ rfl
 simp only [Tryz.ntmps21, List.size_toArray, List.length_cons, List.length_nil, Nat.reduceAdd, Nat.reduceSub, Array.replicate_succ, Array.replicate_zero, List.push_toArray, List.append_toArray, List.nil_append, List.cons_append]
 have hmm := @run_makeMap Tryz.prog
 gi_upto_region 2 with fail
 clear hmm
 have hB0 : Below w.heap.size w (((w.alloc (.cells #[.bool false] 4)).alloc (.map #[] 0)).alloc (.cells #[.map (some (w.heap.size + 1))] 47)) := (((Below.refl _ _).alloc (Nat.le_refl _) _).alloc (by simp) _).alloc (by simp; omega) _
 have hx0 : BoxAt (((w.alloc (.cells #[.bool false] 4)).alloc (.map #[] 0)).alloc (.cells #[.map (some (w.heap.size + 1))] 47)) w.heap.size #[.bool false] 4 := ((BoxAt.new _ _ _).alloc _).alloc _
 have hm0 : MapIs (((w.alloc (.cells #[.bool false] 4)).alloc (.map #[] 0)).alloc (.cells #[.map (some (w.heap.size + 1))] 47)) (w.heap.size + 1) 0 (fun _ => none) := by
  have := MapIs.made (w.alloc (.cells #[.bool false] 4))
  rw [World.size_alloc] at this
  exact this.below ((Below.refl _ _).alloc (Nat.le_refl _) _)
 have hy0 : BoxAt (((w.alloc (.cells #[.bool false] 4)).alloc (.map #[] 0)).alloc (.cells #[.map (some (w.heap.size + 1))] 47)) (w.heap.size + 1 + 1) #[.map (some (w.heap.size + 1))] 47 := BoxAt.new' (by simp)
 have hs0 : (((w.alloc (.cells #[.bool false] 4)).alloc (.map #[] 0)).alloc (.cells #[.map (some (w.heap.size + 1))] 47)).heap.size = w.heap.size + 3 := by simp
 generalize (((w.alloc (.cells #[.bool false] 4)).alloc (.map #[] 0)).alloc (.cells #[.map (some (w.heap.size + 1))] 47)) = W at *
 obtain ⟨Y, hY⟩ : ∃ Y, w.heap.size + 1 + 1 = Y := ⟨_, rfl⟩
 rw [hY] at hy0 ⊢
 obtain ⟨M, hM⟩ : ∃ M, w.heap.size + 1 = M := ⟨_, rfl⟩
 rw [hM] at hm0 hy0 ⊢
 obtain ⟨X, hX⟩ : ∃ X, w.heap.size = X := ⟨_, rfl⟩
 rw [hX] at hx0 ⊢
 have hXw : w.heap.size ≤ X := by omega
 have hXM : X < M := by omega
 have hMY : M < Y := by omega
 have hYW : Y < W.heap.size := by omega
 clear hX hY hM hs0
 gi_wp2_with fail
 refine wpIn_loop (fun a wr => ∃ (i : Nat) (Ds : List Nat) (s5 s6 s10 s11 s12 s13 s14 s15 s16 s17 s18 s19 s20 s21 s22 s23 s24 : Value), a = { tmps := #[.slice A n cap, undef, pT X, pT Y, undef, s5, s6, .map (some M), .agg #[.int .i64 1, .int .i64 4], .int .i64 (i : Int), s10, s11, s12, s13, s14, s15, s16, s17, s18, s19, s20, s21, s22, s23, s24], defers := Ds.map fun D => { target := .collected D, args := #[] } } ∧ i ≤ 2 ∧ Below w.heap.size w wr ∧ BoxAt wr X #[.bool false] 4 ∧ BoxAt wr Y #[.map (some M)] 47 ∧ (∃ k f, MapIs wr M k f) ∧ (1 ≤ i → ((putsF l).map Ev.v).Nodup) ∧ (2 ≤ i → ((gotsF l).map Ev.v).Nodup) ∧ Ds.Nodup ∧ ∀ D ∈ Ds, Y < D ∧ wr.heap[D]? = some (.deferred (some []))) (fun a _ => 2 - (intOf (a.tmps.getD 9 undef)).toNat) ?_ ?_
 · exact ⟨0, [], _, _, _, _, _, _, _, _, _, _, _, _, _, _, _, _, _, rfl, by omega, hB0, hx0, hy0, ⟨_, _, hm0⟩, fun h => absurd h (by omega), fun h => absurd h (by omega), List.nodup_nil, fun D h => by simp at h⟩
 clear hB0 hx0 hy0 hm0 hYW
 rintro a wr ⟨i, Ds, s5, s6, s10, s11, s12, s13, s14, s15, s16, s17, s18, s19, s20, s21, s22, s23, s24, rfl, hi, hB, hx, hy, ⟨k, f, hm⟩, hp1, hp2, hnd, hDs⟩
 have HND := Lib.hid hnd; clear hnd
 have HDS := Lib.hid hDs; clear hDs
 have HP1 := Lib.hid hp1; clear hp1
 have HP2 := Lib.hid hp2; clear hp2
 have hc : i = 0 ∨ i = 1 ∨ i = 2 := by omega
 rcases hc with rfl | rfl | rfl
 ·
  have hix : ∀ W, (Instr.index 48 (.agg #[.int .i64 1, .int .i64 4]) (.int .i64 (0 : Int))).run Tryz.prog W = .ok (.int .i64 1) W := fun W => by kernel_rfl
  have hix2 : ∀ W, (Instr.index 48 (.agg #[.int .i64 1, .int .i64 4]) (.int .i64 ((0 : Nat) : Int))).run Tryz.prog W = .ok (.int .i64 1) W := hix
  have kx := hx.cell
  have ky := hy.cell
  obtain ⟨Wc, hcl, hmc, hbc⟩ := hm.clear Tryz.underlying47
  have hyM := hbc.box hy (by omega)
  have hxM := hbc.box hx (by omega)
  have hBc : Below w.heap.size w Wc := hB.trans (hbc.below (by omega) hB.size)
  have HDC := Lib.hid (show ∀ D ∈ Ds, Y < D ∧ Wc.heap[D]? = some (.deferred (some [])) from fun D hD => ⟨(HDS.out D hD).1, (hbc.block D (lt_of_some (HDS.out D hD).2) (by have := (HDS.out D hD).1; omega)).trans (HDS.out D hD).2⟩)
  gi_wp2_with fail
  refine ⟨trivial, (callsIn_wide.2 (replied_any A n cap 1 Wc)).mono ?_⟩
  rintro e W5 ⟨rfl, hq5⟩
  have hb5 : Below Wc.heap.size Wc W5 := by rw [hq5]; exact ((Below.refl _ _).alloc (Nat.le_refl _) _).alloc (by simp) _
  have hPl : BoxAt W5 Wc.heap.size #[.slice A n cap] 24 := by rw [hq5]; exact (BoxAt.new _ _ _).alloc _
  have hPr : BoxAt W5 (Wc.heap.size + 1) #[.int .i64 1] 2 := by rw [hq5]; exact BoxAt.new' (by simp)
  have hs5 : W5.heap.size = Wc.heap.size + 2 := by rw [hq5]; simp
  clear hq5
  obtain ⟨P, hP⟩ : ∃ P, Wc.heap.size = P := ⟨_, rfl⟩
  have hB5 := bstep hBc hBc.size hb5
  have hm5 := hmc.below hb5
  have hy5 := hyM.below hb5 hyM.lt
  have hx5 := hxM.below hb5 hxM.lt
  have hYP : Y < Wc.heap.size := hyM.lt
  have HD5 := Lib.hid (show ∀ D ∈ Ds, Y < D ∧ D < W5.heap.size ∧ W5.heap[D]? = some (.deferred (some [])) from fun D hD => by
   have h1 := HDC.out D hD
   have h2 := lt_of_some h1.2
   exact ⟨h1.1, by have := hb5.size; omega, (hb5.block D h2).trans h1.2⟩)
  rw [hP] at hPl hPr hs5 hYP ⊢
  have hsP : P + 2 ≤ W5.heap.size := by omega
  clear hb5 hP hs5 hm hx hy kx ky hcl hmc hyM hxM hBc hbc HDC HDS hB
  gi_wp2_with fail
  refine wpIn_rep w (P₀ := P) rfl h hn hB5 (by omega) hsP hPl hPr
   (fun ys Wy => ((BoxAt Wy Y #[.map (some M)] 47 ∧ BoxAt Wy X #[.bool false] 4) ∧ ∀ D ∈ Ds, Wy.heap[D]? = some (.deferred (some []))) ∧ ∃ f, MapIs Wy M ys.length f ∧ (∀ v, (f v).getD (.bool false) = .bool (anyV ys v)) ∧ (ys.map Ev.v).Nodup)
   (fun ys Wy => (BoxAt Wy X #[.bool true] 4 ∧ ∀ D ∈ Ds, Wy.heap[D]? = some (.deferred (some []))) ∧ ¬ (ys.map Ev.v).Nodup)
   (OwnFrom.and (OwnFrom.and (OwnFrom.and box_own box_own) (marks_own (fun D hD => (HD5.out D hD).2.1))) (mapE_own (by omega) (fun ys : List Ev => ys.length) (fun ys f => (∀ v, (f v).getD (.bool false) = .bool (anyV ys v)) ∧ (ys.map Ev.v).Nodup)))
   (OwnFrom.and (OwnFrom.and box_own (marks_own (fun D hD => (HD5.out D hD).2.1))) (ownFrom_pure _ (fun ys : List Ev => ¬ (ys.map Ev.v).Nodup)))
   ⟨⟨⟨hy5, hx5⟩, fun D hD => (HD5.out D hD).2.2⟩, _, hm5, fun v => rfl, List.nodup_nil⟩ (fun x E => { tmps := #[.slice A n cap, undef, pT X, pT Y, undef, .int .i64 1, pT E, .map (some M), .agg #[.int .i64 1, .int .i64 4], .int .i64 0, .bool true, .int .i64 1, .map (some M), .slice A n cap, .int .i64 1, .func (.func 35) #[] #[pT P, pT (P + 1)], .agg #[x.who, x.put, x.v, x.re, x.b, x.e], s17, s18, s19, s20, s21, s22, s23, s24], defers := [] }) ?assign ?body ?done ?stop
  case assign =>
   intro lp x Wy K hK
   unfold evC at hK ⊢
   gi_wp2
   simpa using hK
  case body =>
   rintro lp ys x E Wy hE hxl hxr hB hsz hx ⟨⟨⟨hy, hr⟩, hmk⟩, f, hm, hf, hnd⟩ hlen
   have HMK := Lib.hid hmk; clear hmk
   have kx := hx.cell
   have ky := hy.cell
   have kr := hr.cell
   have fr := hr.frozen
   unfold evC at kx
   have hkw := key_wf (hv x hxl).1 (hv x hxl).2
   have hlk : (Instr.lookup 47 (.map (some M)) (.int .i64 x.v) false).run Tryz.prog Wy = .ok (.bool (anyV ys x.v)) Wy := by rw [hm.look Tryz.underlying47 (zero_b _) hkw, hf]
   obtain ⟨c_, hc⟩ : ∃ c_, anyV ys x.v = c_ := ⟨_, rfl⟩
   rw [hc] at hlk
   cases c_
   ·
    obtain ⟨W2, hup, hm2, hb2⟩ := hm.upd Tryz.underlying47 (by unfold maxLen; omega) hkw (.bool true)
    have HF := Lib.hid (show ∀ v, ((if v = x.v then some (.bool true) else f v : Option Value)).getD (.bool false) = .bool (anyV (ys ++ [x]) v) from fun v => by
     rw [anyV_snoc]
     by_cases e : v = x.v
     · rw [if_pos e, show decide (v = x.v) = true by simp [e], Bool.or_true]; rfl
     · rw [if_neg e, show decide (v = x.v) = false by simp [e], Bool.or_false]; exact hf v)
    have HN := Lib.hid (nodup_snoc.2 ⟨hnd, hc⟩)
    have hyb := hb2.box hy (by omega)
    have hrb := hb2.box hr (by omega)
    have HMB := Lib.hid (show ∀ D ∈ Ds, W2.heap[D]? = some (.deferred (some [])) from fun D hD => (hb2.block D (lt_of_some (HMK.out D hD)) (by have := (HD5.out D hD).1; omega)).trans (HMK.out D hD))
    clear hm hf hc hnd
    gi_wp2
    exact ⟨⟨M, by omega, by omega, hb2⟩, ⟨⟨hyb, hrb⟩, HMB.out⟩, _, by simpa using hm2, HF.out, HN.out⟩
   ·
    have HN := Lib.hid (show ¬ ((ys ++ [x]).map Ev.v).Nodup from fun h1 => by have := (nodup_snoc.1 h1).2; rw [hc] at this; cases this)
    clear hm hf hc hnd
    gi_wp2
    exact ⟨⟨X, by omega, by omega, (But.refl _ _).set 0 _⟩, ⟨hr.set 0 _, fun D hD => (KeepsOthers.setCell Wy ⟨X, 0, none⟩ (.bool true)).same D _ (HMK.out D hD) rfl⟩, HN.out⟩
  case done =>
   rintro D Wd hD hB hsz ⟨⟨⟨hy, hr⟩, hmk⟩, f, hm, hf, hnd⟩ hdef
   have HDF := Lib.hid hdef
   have HMK := Lib.hid hmk
   have HN := Lib.hid hnd
   have HM := Lib.hid hm
   clear hdef hmk hnd hm hf
   gi_wp2
   refine ⟨⟨1, D :: Ds, _, _, _, _, _, _, _, _, _, _, _, _, _, _, _, _, _, rfl, by omega, hB, hr, hy, ⟨_, _, HM.out⟩, (fun _ => HN.out), (fun h => absurd h (by omega)), List.nodup_cons.2 ⟨fun h => absurd (HD5.out D h).2.1 (by omega), HND.out⟩, fun E hE => ?_⟩, ?_⟩
   ·
    rcases List.mem_cons.1 hE with rfl | hE
    · exact ⟨by omega, HDF.out⟩
    · exact ⟨(HD5.out E hE).1, HMK.out E hE⟩
   · simp [intOf]
  case stop =>
   rintro D ys Ws hD hB hsz hpre ⟨⟨hr, hmk⟩, hnn⟩ hdef
   have HR := Lib.hid (show anyTwice l = true by
    have h1 := nodup_pre hpre hnn
    unfold anyTwice
    rw [show decide ((putsF l).map Ev.v).Nodup = false from decide_eq_false h1]; rfl)
   have HNX := Lib.hid (show (D :: Ds).Nodup from List.nodup_cons.2 ⟨fun h => absurd (HD5.out D h).2.1 (by omega), HND.out⟩)
   have HDX := Lib.hid (show ∀ E ∈ D :: Ds, w.heap.size ≤ E ∧ Ws.heap[E]? = some (.deferred (some [])) from fun E hE => by
    rcases List.mem_cons.1 hE with rfl | hE
    · exact ⟨by omega, hdef⟩
    · exact ⟨by have := (HD5.out E hE).1; omega, hmk E hE⟩)
   clear hdef hmk hnn hpre
   gi_wp2
   refine leavesR (M := w.heap.size) (fun Wg => BoxAt Wg X #[.bool true] 4 ∧ Below w.heap.size w Wg) (fun Wg hG => ?_) (fun Wg D hD hG hs => ⟨box_own (β := Unit) (C := 0) () _ _ (some D) hG.1 (grownBy_putObj' _ D (.deferred none)) (fun r e => by cases e; exact ⟨Nat.zero_le _, _, hs, rfl⟩), hG.2.trans (belowK_b (w := w) (Nat.le_refl _) _ D _ _ hD hs rfl rfl)⟩) (D :: Ds) _ HNX.out HDX.out ⟨hr, hB⟩
   have kg := hG.1.cell
   exact ⟨.bool true, by simp [results, Tryz.results21, go_sem, kg], .mk (congrArg Value.bool HR.out.symm) hG.2⟩
 ·
  have hix : ∀ W, (Instr.index 48 (.agg #[.int .i64 1, .int .i64 4]) (.int .i64 (1 : Int))).run Tryz.prog W = .ok (.int .i64 4) W := fun W => by kernel_rfl
  have hix2 : ∀ W, (Instr.index 48 (.agg #[.int .i64 1, .int .i64 4]) (.int .i64 ((1 : Nat) : Int))).run Tryz.prog W = .ok (.int .i64 4) W := hix
  have kx := hx.cell
  have ky := hy.cell
  obtain ⟨Wc, hcl, hmc, hbc⟩ := hm.clear Tryz.underlying47
  have hyM := hbc.box hy (by omega)
  have hxM := hbc.box hx (by omega)
  have hBc : Below w.heap.size w Wc := hB.trans (hbc.below (by omega) hB.size)
  have HDC := Lib.hid (show ∀ D ∈ Ds, Y < D ∧ Wc.heap[D]? = some (.deferred (some [])) from fun D hD => ⟨(HDS.out D hD).1, (hbc.block D (lt_of_some (HDS.out D hD).2) (by have := (HDS.out D hD).1; omega)).trans (HDS.out D hD).2⟩)
  gi_wp2_with fail
  refine ⟨trivial, (callsIn_wide.2 (replied_any A n cap 4 Wc)).mono ?_⟩
  rintro e W5 ⟨rfl, hq5⟩
  have hb5 : Below Wc.heap.size Wc W5 := by rw [hq5]; exact ((Below.refl _ _).alloc (Nat.le_refl _) _).alloc (by simp) _
  have hPl : BoxAt W5 Wc.heap.size #[.slice A n cap] 24 := by rw [hq5]; exact (BoxAt.new _ _ _).alloc _
  have hPr : BoxAt W5 (Wc.heap.size + 1) #[.int .i64 4] 2 := by rw [hq5]; exact BoxAt.new' (by simp)
  have hs5 : W5.heap.size = Wc.heap.size + 2 := by rw [hq5]; simp
  clear hq5
  obtain ⟨P, hP⟩ : ∃ P, Wc.heap.size = P := ⟨_, rfl⟩
  have hB5 := bstep hBc hBc.size hb5
  have hm5 := hmc.below hb5
  have hy5 := hyM.below hb5 hyM.lt
  have hx5 := hxM.below hb5 hxM.lt
  have hYP : Y < Wc.heap.size := hyM.lt
  have HD5 := Lib.hid (show ∀ D ∈ Ds, Y < D ∧ D < W5.heap.size ∧ W5.heap[D]? = some (.deferred (some [])) from fun D hD => by
   have h1 := HDC.out D hD
   have h2 := lt_of_some h1.2
   exact ⟨h1.1, by have := hb5.size; omega, (hb5.block D h2).trans h1.2⟩)
  rw [hP] at hPl hPr hs5 hYP ⊢
  have hsP : P + 2 ≤ W5.heap.size := by omega
  clear hb5 hP hs5 hm hx hy kx ky hcl hmc hyM hxM hBc hbc HDC HDS hB
  gi_wp2_with fail
  refine wpIn_rep w (P₀ := P) rfl h hn hB5 (by omega) hsP hPl hPr
   (fun ys Wy => ((BoxAt Wy Y #[.map (some M)] 47 ∧ BoxAt Wy X #[.bool false] 4) ∧ ∀ D ∈ Ds, Wy.heap[D]? = some (.deferred (some []))) ∧ ∃ f, MapIs Wy M ys.length f ∧ (∀ v, (f v).getD (.bool false) = .bool (anyV ys v)) ∧ (ys.map Ev.v).Nodup)
   (fun ys Wy => (BoxAt Wy X #[.bool true] 4 ∧ ∀ D ∈ Ds, Wy.heap[D]? = some (.deferred (some []))) ∧ ¬ (ys.map Ev.v).Nodup)
   (OwnFrom.and (OwnFrom.and (OwnFrom.and box_own box_own) (marks_own (fun D hD => (HD5.out D hD).2.1))) (mapE_own (by omega) (fun ys : List Ev => ys.length) (fun ys f => (∀ v, (f v).getD (.bool false) = .bool (anyV ys v)) ∧ (ys.map Ev.v).Nodup)))
   (OwnFrom.and (OwnFrom.and box_own (marks_own (fun D hD => (HD5.out D hD).2.1))) (ownFrom_pure _ (fun ys : List Ev => ¬ (ys.map Ev.v).Nodup)))
   ⟨⟨⟨hy5, hx5⟩, fun D hD => (HD5.out D hD).2.2⟩, _, hm5, fun v => rfl, List.nodup_nil⟩ (fun x E => { tmps := #[.slice A n cap, undef, pT X, pT Y, undef, .int .i64 4, pT E, .map (some M), .agg #[.int .i64 1, .int .i64 4], .int .i64 1, .bool true, .int .i64 4, .map (some M), .slice A n cap, .int .i64 4, .func (.func 35) #[] #[pT P, pT (P + 1)], .agg #[x.who, x.put, x.v, x.re, x.b, x.e], s17, s18, s19, s20, s21, s22, s23, s24], defers := [] }) ?assign ?body ?done ?stop
  case assign =>
   intro lp x Wy K hK
   unfold evC at hK ⊢
   gi_wp2
   simpa using hK
  case body =>
   rintro lp ys x E Wy hE hxl hxr hB hsz hx ⟨⟨⟨hy, hr⟩, hmk⟩, f, hm, hf, hnd⟩ hlen
   have HMK := Lib.hid hmk; clear hmk
   have kx := hx.cell
   have ky := hy.cell
   have kr := hr.cell
   have fr := hr.frozen
   unfold evC at kx
   have hkw := key_wf (hv x hxl).1 (hv x hxl).2
   have hlk : (Instr.lookup 47 (.map (some M)) (.int .i64 x.v) false).run Tryz.prog Wy = .ok (.bool (anyV ys x.v)) Wy := by rw [hm.look Tryz.underlying47 (zero_b _) hkw, hf]
   obtain ⟨c_, hc⟩ : ∃ c_, anyV ys x.v = c_ := ⟨_, rfl⟩
   rw [hc] at hlk
   cases c_
   ·
    obtain ⟨W2, hup, hm2, hb2⟩ := hm.upd Tryz.underlying47 (by unfold maxLen; omega) hkw (.bool true)
    have HF := Lib.hid (show ∀ v, ((if v = x.v then some (.bool true) else f v : Option Value)).getD (.bool false) = .bool (anyV (ys ++ [x]) v) from fun v => by
     rw [anyV_snoc]
     by_cases e : v = x.v
     · rw [if_pos e, show decide (v = x.v) = true by simp [e], Bool.or_true]; rfl
     · rw [if_neg e, show decide (v = x.v) = false by simp [e], Bool.or_false]; exact hf v)
    have HN := Lib.hid (nodup_snoc.2 ⟨hnd, hc⟩)
    have hyb := hb2.box hy (by omega)
    have hrb := hb2.box hr (by omega)
    have HMB := Lib.hid (show ∀ D ∈ Ds, W2.heap[D]? = some (.deferred (some [])) from fun D hD => (hb2.block D (lt_of_some (HMK.out D hD)) (by have := (HD5.out D hD).1; omega)).trans (HMK.out D hD))
    clear hm hf hc hnd
    gi_wp2
    exact ⟨⟨M, by omega, by omega, hb2⟩, ⟨⟨hyb, hrb⟩, HMB.out⟩, _, by simpa using hm2, HF.out, HN.out⟩
   ·
    have HN := Lib.hid (show ¬ ((ys ++ [x]).map Ev.v).Nodup from fun h1 => by have := (nodup_snoc.1 h1).2; rw [hc] at this; cases this)
    clear hm hf hc hnd
    gi_wp2
    exact ⟨⟨X, by omega, by omega, (But.refl _ _).set 0 _⟩, ⟨hr.set 0 _, fun D hD => (KeepsOthers.setCell Wy ⟨X, 0, none⟩ (.bool true)).same D _ (HMK.out D hD) rfl⟩, HN.out⟩
  case done =>
   rintro D Wd hD hB hsz ⟨⟨⟨hy, hr⟩, hmk⟩, f, hm, hf, hnd⟩ hdef
   have HDF := Lib.hid hdef
   have HMK := Lib.hid hmk
   have HN := Lib.hid hnd
   have HM := Lib.hid hm
   clear hdef hmk hnd hm hf
   gi_wp2
   refine ⟨⟨2, D :: Ds, _, _, _, _, _, _, _, _, _, _, _, _, _, _, _, _, _, rfl, by omega, hB, hr, hy, ⟨_, _, HM.out⟩, (fun _ => HP1.out (by omega)), (fun _ => HN.out), List.nodup_cons.2 ⟨fun h => absurd (HD5.out D h).2.1 (by omega), HND.out⟩, fun E hE => ?_⟩, ?_⟩
   ·
    rcases List.mem_cons.1 hE with rfl | hE
    · exact ⟨by omega, HDF.out⟩
    · exact ⟨(HD5.out E hE).1, HMK.out E hE⟩
   · simp [intOf]
  case stop =>
   rintro D ys Ws hD hB hsz hpre ⟨⟨hr, hmk⟩, hnn⟩ hdef
   have HR := Lib.hid (show anyTwice l = true by
    have h1 := nodup_pre hpre hnn
    unfold anyTwice
    rw [show decide ((gotsF l).map Ev.v).Nodup = false from decide_eq_false h1, Bool.not_false, Bool.or_true])
   have HNX := Lib.hid (show (D :: Ds).Nodup from List.nodup_cons.2 ⟨fun h => absurd (HD5.out D h).2.1 (by omega), HND.out⟩)
   have HDX := Lib.hid (show ∀ E ∈ D :: Ds, w.heap.size ≤ E ∧ Ws.heap[E]? = some (.deferred (some [])) from fun E hE => by
    rcases List.mem_cons.1 hE with rfl | hE
    · exact ⟨by omega, hdef⟩
    · exact ⟨by have := (HD5.out E hE).1; omega, hmk E hE⟩)
   clear hdef hmk hnn hpre
   gi_wp2
   refine leavesR (M := w.heap.size) (fun Wg => BoxAt Wg X #[.bool true] 4 ∧ Below w.heap.size w Wg) (fun Wg hG => ?_) (fun Wg D hD hG hs => ⟨box_own (β := Unit) (C := 0) () _ _ (some D) hG.1 (grownBy_putObj' _ D (.deferred none)) (fun r e => by cases e; exact ⟨Nat.zero_le _, _, hs, rfl⟩), hG.2.trans (belowK_b (w := w) (Nat.le_refl _) _ D _ _ hD hs rfl rfl)⟩) (D :: Ds) _ HNX.out HDX.out ⟨hr, hB⟩
   have kg := hG.1.cell
   exact ⟨.bool true, by simp [results, Tryz.results21, go_sem, kg], .mk (congrArg Value.bool HR.out.symm) hG.2⟩
 ·
  have HR := Lib.hid (show anyTwice l = false by unfold anyTwice; rw [decide_eq_true (HP1.out (by omega)), decide_eq_true (HP2.out (by omega))]; rfl)
  have kr := hx.cell
  have fr := hx.frozen
  clear hm
  gi_wp2
  have HDX := Lib.hid (show ∀ D ∈ Ds, w.heap.size ≤ D ∧ (wr.setCell ⟨X, 0, none⟩ (.bool false)).heap[D]? = some (.deferred (some [])) from fun D hD => ⟨by have := (HDS.out D hD).1; omega, (KeepsOthers.setCell wr ⟨X, 0, none⟩ (.bool false)).same D _ (HDS.out D hD).2 rfl⟩)
  refine leavesR (M := w.heap.size) (fun Wg => BoxAt Wg X #[.bool false] 4 ∧ Below w.heap.size w Wg) (fun Wg hG => ?_) (fun Wg D hD hG hs => ⟨box_own (β := Unit) (C := 0) () _ _ (some D) hG.1 (grownBy_putObj' _ D (.deferred none)) (fun r e => by cases e; exact ⟨Nat.zero_le _, _, hs, rfl⟩), hG.2.trans (belowK_b (w := w) (Nat.le_refl _) _ D _ _ hD hs rfl rfl)⟩) Ds _ HND.out HDX.out ⟨hx.set 0 _, hB.setCell (p := ⟨X, 0, none⟩) (by simp; omega) _⟩
  have kg := hG.1.cell
  exact ⟨.bool false, by simp [results, Tryz.results21, go_sem, kg], .mk (congrArg Value.bool HR.out.symm) hG.2⟩
end Go.Proofs.YtiiaimjlohpemaaGreat

/-
 Whether all that is due was got.
-/
namespace Go.Proofs.YtiiaimjlohpemaaGreat
set_option linter.unusedSimpArgs false
set_option linter.unusedVariables false
open Go.RowKit Go.Shelf Go.Maps
set_option linter.unusedVariables false
attribute [local go_sem ↓] Go.wp_at_zero Go.wp_at_succ

/-! ### Arrays of sixteen flags -/

def flags (bs : List Bool) : Array Value := (bs.map Value.bool).toArray
theorem flags_get {bs : List Bool} {i : Nat} {b : Bool} (h : bs[i]? = some b) : (flags bs)[i]? = some (.bool b) := by simp [flags, h]
theorem flags_set (bs : List Bool) (i : Nat) (b : Bool) : (flags bs).setIfInBounds i (.bool b) = flags (bs.set i b) := by simp [flags, List.map_set]
theorem idx16 (b i : Nat) (h : i < 16) (W : World) : (Instr.indexAt 77 (pT b) (.int .i64 (i : Int))).run Tryz.prog W = .ok (.pointer (some ⟨b, i, none⟩)) W :=
 match i, h with
 | 0, _ => by kernel_rfl
 | 1, _ => by kernel_rfl
 | 2, _ => by kernel_rfl
 | 3, _ => by kernel_rfl
 | 4, _ => by kernel_rfl
 | 5, _ => by kernel_rfl
 | 6, _ => by kernel_rfl
 | 7, _ => by kernel_rfl
 | 8, _ => by kernel_rfl
 | 9, _ => by kernel_rfl
 | 10, _ => by kernel_rfl
 | 11, _ => by kernel_rfl
 | 12, _ => by kernel_rfl
 | 13, _ => by kernel_rfl
 | 14, _ => by kernel_rfl
 | 15, _ => by kernel_rfl
 | n + 16, h => absurd h (by omega)
theorem list16 : ∀ {bs : List Bool}, bs.length = 16 → ∃ a0 a1 a2 a3 a4 a5 a6 a7 a8 a9 a10 a11 a12 a13 a14 a15, bs = [a0, a1, a2, a3, a4, a5, a6, a7, a8, a9, a10, a11, a12, a13, a14, a15]
 | [a0, a1, a2, a3, a4, a5, a6, a7, a8, a9, a10, a11, a12, a13, a14, a15], _ => ⟨_, _, _, _, _, _, _, _, _, _, _, _, _, _, _, _, rfl⟩
theorem beq_upto (xs ys : List Bool) (h : xs.length = ys.length) : ((List.range' 0 xs.length).all fun i => xs.getD i false == ys.getD i false) = (xs == ys) := by
 rw [Bool.eq_iff_iff, List.all_eq_true, beq_iff_eq]
 constructor
 ·
  intro ha
  refine List.ext_getElem h fun i h1 h2 => ?_
  have := ha i (List.mem_range'_1.2 ⟨Nat.zero_le _, by omega⟩)
  rw [beq_iff_eq, List.getD_eq_getElem?_getD, List.getD_eq_getElem?_getD, List.getElem?_eq_getElem h1, List.getElem?_eq_getElem h2] at this
  exact this
 ·
  rintro rfl i _
  exact beq_self_eq_true _
theorem flag_part (bs : List Bool) {i : Nat} (h : i < bs.length) (W : World) : (part 4 (flags bs) (i * 1)).run Tryz.prog W = .ok (.bool (bs.getD i false)) W := by
 have hu := Tryz.underlying4
 simp [part, isAgg, run_underlying hu, flags, List.getD, List.getElem?_eq_getElem h]
theorem eql_flags (xs ys : List Bool) (hx : xs.length = 16) (hy : ys.length = 16) (W : World) : (binOp .eql 77 (.agg (flags xs)) (.agg (flags ys))).run Tryz.prog W = .ok (.bool (xs == ys)) W := by
 have hs : ∀ V, (sizeOf 4).run Tryz.prog V = .ok 1 V := fun V => by kernel_rfl
 have hu : Tryz.prog.underlying 77 = some (.array 16 4) := by kernel_rfl
 rw [run_eql_struct, Op.equalIn]
 simp only [Sem.run_bind, run_underlying hu, Result.andThen_ok, hs, Std.Legacy.Range.forIn_eq_forIn_range', Std.Legacy.Range.size, Nat.sub_zero, Nat.add_sub_cancel, Nat.div_one]
 rw [← beq_upto xs ys (by omega), hx]
 have hr : ∀ j ∈ List.range' 0 16 1, j < 16 := fun j hj => by have := (List.mem_range'_1.1 hj).2; omega
 revert hr
 generalize List.range' 0 16 1 = r
 intro hr
 induction r with
 | nil => simp
 | cons j r ih =>
  have hj := hr j List.mem_cons_self
  have e1 : (Op.equalIn 9999 4 (.bool (xs.getD j false)) (.bool (ys.getD j false))).run Tryz.prog W = .ok (xs.getD j false == ys.getD j false) W := run_equalIn_bool W 9998 4 _ _ Tryz.underlying4
  simp only [List.forIn_cons, Sem.run_bind, flag_part xs (show j < xs.length by omega), flag_part ys (show j < ys.length by omega), e1, Result.andThen_ok, List.all_cons]
  cases hb : (xs.getD j false == ys.getD j false)
  · simp
  ·
   simp only [Bool.not_true, Bool.false_eq_true, if_false, Sem.run_pure, Result.andThen_ok, Bool.true_and]
   exact ih fun i hi => hr i (List.mem_cons_of_mem _ hi)

/-! ### What is due, and what was got of it -/

def dueQ (next e : Ev) : Bool := e.re == 1 && decide (e.e < next.b)
def inTime (l : List Ev) (o : Ev) (v : Int) : Bool := match takeOf (gotsF l) v with
 | some t => !decide (o.e < t.b)
 | none => false
def gotQ (l : List Ev) (next o e : Ev) : Bool := dueQ next e && inTime l o e.v
def allGotB (l : List Ev) (next o : Ev) : Bool := l.all fun e => !dueQ next e || inTime l o e.v
theorem allGot_eq (l : List Ev) (next o : Ev) (r : List Bool) : (l.map (dueQ next) ++ r == l.map (gotQ l next o) ++ r) = allGotB l next o := by
 rw [Bool.eq_iff_iff, beq_iff_eq, List.append_left_inj, List.map_inj_left]
 unfold allGotB
 rw [List.all_eq_true]
 refine forall_congr' fun e => forall_congr' fun _ => ?_
 unfold gotQ
 cases dueQ next e <;> cases inTime l o e.v <;> simp

structure AGot (w : World) (x y : Ev) (X Y M k : Nat) (f : Int → Option Value) (D1 D2 : Nat) (ds gs : List Bool) (W : World) : Prop where
 b : Below w.heap.size w W
 x : BoxAt W X (evC x) 32
 y : BoxAt W Y (evC y) 32
 m : MapIs W M k f
 d : BoxAt W D1 (flags ds) 77
 g : BoxAt W D2 (flags gs) 77
 lo : w.heap.size ≤ X
 xy : X < Y
 ym : Y < M
 md : M < D1
 dg : D1 < D2
section
variable {w W W' : World} {x y : Ev} {X Y M k : Nat} {f : Int → Option Value} {D1 D2 : Nat} {ds gs : List Bool}
theorem AGot.below (h : AGot w x y X Y M k f D1 D2 ds gs W) (hb : Below W.heap.size W W') : AGot w x y X Y M k f D1 D2 ds gs W' :=
 ⟨bstep h.b h.b.size hb, h.x.below hb h.x.lt, h.y.below hb h.y.lt, h.m.below hb, h.d.below hb h.d.lt, h.g.below hb h.g.lt, h.lo, h.xy, h.ym, h.md, h.dg⟩
theorem AGot.setD (h : AGot w x y X Y M k f D1 D2 ds gs W) (i : Nat) (v : Bool) : AGot w x y X Y M k f D1 D2 (ds.set i v) gs (W.setCell ⟨D1, i, none⟩ (.bool v)) := by
 have h1 := h.lo
 have h2 := h.xy
 have h3 := h.ym
 have h4 := h.md
 have h5 := h.dg
 refine ⟨h.b.setCell (by simp; omega) _, h.x.sn, h.y.sn, h.m.but ((But.refl D1 W).set i _) (by omega), ?_, h.g.sn, h1, h2, h3, h4, h5⟩
 rw [← flags_set]
 exact h.d.set i _
theorem AGot.setG (h : AGot w x y X Y M k f D1 D2 ds gs W) (i : Nat) (v : Bool) : AGot w x y X Y M k f D1 D2 ds (gs.set i v) (W.setCell ⟨D2, i, none⟩ (.bool v)) := by
 have h1 := h.lo
 have h2 := h.xy
 have h3 := h.ym
 have h4 := h.md
 have h5 := h.dg
 refine ⟨h.b.setCell (by simp; omega) _, h.x.sn, h.y.sn, h.m.but ((But.refl D2 W).set i _) (by omega), h.d.sn, ?_, h1, h2, h3, h4, h5⟩
 rw [← flags_set]
 exact h.g.set i _
end
theorem evflags {W : World} {E : Nat} {x : Ev} {bs : List Bool} (h : BoxAt W E (evC x) 32) (g : BoxAt W E (flags bs) 77) : False := by
 unfold BoxAt at h g
 rw [h] at g
 injection g with g
 injection g with _ g
 revert g
 decide
theorem zero_e (w : World) : (zeroValue 32).run Tryz.prog w = .ok (.agg #[.int .i64 0, .bool false, .int .i64 0, .int .i64 0, .int .i64 0, .int .i64 0]) w := by kernel_rfl

set_option maxRecDepth 100000 in
set_option maxHeartbeats 4000000 in
theorem allGot_any (l : List Ev) (x y : Ev) (A : Option Addr) (n cap : Nat) (w : World) (h : EvsR w A n l) (hn : n ≤ 16) (hv : ∀ x ∈ l, 0 ≤ x.v ∧ x.v ≤ 1000000) :
  Calls Tryz.prog 38 #[.slice A n cap, .agg #[x.who, x.put, x.v, x.re, x.b, x.e], .agg #[y.who, y.put, y.v, y.re, y.b, y.e]] w (RetBelow (.bool (allGotB l x y)) w) := by
 have HL := Lib.hid h.1
 go_enter Tryz.func38, Tryz.ntmps38
 go_upto_region 1 with fail
 have hB0 : Below w.heap.size w ((w.alloc (.cells #[x.who, x.put, x.v, x.re, x.b, x.e] 32)).alloc (.cells #[y.who, y.put, y.v, y.re, y.b, y.e] 32)) := ((Below.refl _ _).alloc (Nat.le_refl _) _).alloc (by simp) _
 have hx0 : BoxAt ((w.alloc (.cells #[x.who, x.put, x.v, x.re, x.b, x.e] 32)).alloc (.cells #[y.who, y.put, y.v, y.re, y.b, y.e] 32)) w.heap.size (evC x) 32 := (BoxAt.new _ _ _).alloc _
 have hy0 : BoxAt ((w.alloc (.cells #[x.who, x.put, x.v, x.re, x.b, x.e] 32)).alloc (.cells #[y.who, y.put, y.v, y.re, y.b, y.e] 32)) (w.heap.size + 1) (evC y) 32 := BoxAt.new' (by simp)
 generalize (w.alloc (.cells #[x.who, x.put, x.v, x.re, x.b, x.e] 32)).alloc (.cells #[y.who, y.put, y.v, y.re, y.b, y.e] 32) = W at *
 obtain ⟨Y, hY⟩ : ∃ Y, w.heap.size + 1 = Y := ⟨_, rfl⟩
 obtain ⟨X, hX⟩ : ∃ X, w.heap.size = X := ⟨_, rfl⟩
 rw [hY] at hy0 ⊢
 rw [hX] at hx0 ⊢
 have hXw : w.heap.size ≤ X := by omega
 have hXY : X < Y := by omega
 clear hX hY
 go_wp2_with fail
 refine ((callsIn_wide (n := 3)).1 (callsIn_wide.2 (takes_any l A n cap W (h.below hB0) (by omega) hv))).mono ?_
 rintro e W2 ⟨M, k, f, rfl, hM, hm, hf, hb⟩
 have HF := Lib.hid hf
 have hYM : Y < M := Nat.lt_of_lt_of_le hy0.lt hM
 replace hB0 := bstep hB0 hB0.size hb
 replace hx0 := hx0.below hb hx0.lt
 replace hy0 := hy0.below hb hy0.lt
 clear hM hf hb
 go_upto_region 3 with fail
 refine wp_abs (fun W3 => AGot w x y X Y M k f W2.heap.size (W2.heap.size + 1) (upto false (l.map (dueQ x) ++ List.replicate (16 - n) false) 0) (upto false (l.map (gotQ l x y) ++ List.replicate (16 - n) false) 0) W3) ?_ ?_
 ·
  have hb : Below W2.heap.size W2 ((W2.alloc (.cells (flags (List.replicate 16 false)) 77)).alloc (.cells (flags (List.replicate 16 false)) 77)) := ((Below.refl _ _).alloc (Nat.le_refl _) _).alloc (by simp) _
  rw [upto_zero, upto_zero, List.length_append, List.length_append, List.length_map, List.length_map, List.length_replicate, show l.length + (16 - n) = 16 by have := HL.out; omega]
  exact ⟨bstep hB0 hB0.size hb, hx0.below hb hx0.lt, hy0.below hb hy0.lt, hm.below hb, (BoxAt.new _ _ _).alloc _, BoxAt.new' (by simp), hXw, hXY, hYM, hm.lt, by omega⟩
 obtain ⟨D1, hD1⟩ : ∃ D1, W2.heap.size = D1 := ⟨_, rfl⟩
 obtain ⟨D2, hD2⟩ : ∃ D2, W2.heap.size + 1 = D2 := ⟨_, rfl⟩
 rw [hD2, hD1]
 clear hB0 hx0 hy0 hm hXw hXY hYM hD1 hD2
 intro W3 hA0
 go_wp2
 go_loopw [18] (fun s18 W => ∃ i : Nat, i ≤ n ∧ s18 = .int .i64 i ∧ AGot w x y X Y M k f D1 D2 (upto false (l.map (dueQ x) ++ List.replicate (16 - n) false) i) (upto false (l.map (gotQ l x y) ++ List.replicate (16 - n) false) i) W) (fun s18 _ => n - (intOf s18).toNat)
 case atStart => exact ⟨0, Nat.zero_le _, rfl, hA0⟩
 case round =>
  clear hA0
  obtain ⟨i, hin, rfl, hA⟩ := hrel
  by_cases hlt : i < n
  ·
   obtain ⟨b, o, q, rfl, _, hq, c0, c1, c2, c3, c4, c5⟩ := SlE.at_ (SlE.keep EvE.kept h (fun j _ hj => hA.b.block j hj)) hlt
   have HQ := Lib.hid hq; clear hq
   have g1 : (i : Int) < (n : Int) := by omega
   have g2 : (0 : Int) ≤ (i : Int) := by omega
   have hi16 : i < 16 := by omega
   go_upto_region 6 with fail
   refine wp_abs (fun Wz => AGot w x y X Y M k f D1 D2 (upto false (l.map (dueQ x) ++ List.replicate (16 - n) false) i) (upto false (l.map (gotQ l x y) ++ List.replicate (16 - n) false) i) Wz ∧ BoxAt Wz wr.heap.size (evC q) 32) ⟨hA.below ((Below.refl _ _).alloc (Nat.le_refl _) _), BoxAt.new _ _ _⟩ ?_
   obtain ⟨E, hE⟩ : ∃ E, wr.heap.size = E := ⟨_, rfl⟩
   rw [hE]
   clear hE c0 c1 c2 c3 c4 c5 hA
   rintro W4 ⟨hA4, he⟩
   have hmem : q ∈ l := List.mem_of_getElem? HQ.out
   have hkw := key_wf (hv q hmem).1 (hv q hmem).2
   obtain ⟨tt, isb, hlk, hit⟩ : ∃ (tt : Ev) (isb : Bool), (Instr.lookup 49 (.map (some M)) (.int .i64 q.v) true).run Tryz.prog W4 = .ok (.tuple #[.agg (evC tt), isb]) W4 ∧ inTime l y q.v = (isb && !decide (y.e < tt.b)) := by
    have h1 := hA4.m.lookOk Tryz.underlying49 (zero_e W4) hkw
    rw [HF.out] at h1
    unfold inTime
    cases ht : takeOf (gotsF l) q.v with
    | none => rw [ht] at h1; exact ⟨⟨0, false, 0, 0, 0, 0⟩, false, h1, rfl⟩
    | some t => rw [ht] at h1; exact ⟨t, true, h1, rfl⟩
   have HIT := Lib.hid hit
   have hld : (l.map (dueQ x) ++ List.replicate (16 - n) false)[i]? = some (dueQ x q) := by rw [List.getElem?_append_left (by rw [List.length_map, HL.out]; exact hlt), List.getElem?_map, HQ.out]; rfl
   have hlg : (l.map (gotQ l x y) ++ List.replicate (16 - n) false)[i]? = some (dueQ x q && (isb && !decide (y.e < tt.b))) := by rw [List.getElem?_append_left (by rw [List.length_map, HL.out]; exact hlt), List.getElem?_map, HQ.out, ← HIT.out]; rfl
   have HSD := Lib.hid (upto_set false _ hld)
   have HSG := Lib.hid (upto_set false _ hlg)
   have hdl : ((upto false (l.map (dueQ x) ++ List.replicate (16 - n) false) i))[i]? = some false := upto_at _ _ (by rw [List.length_append, List.length_map, List.length_replicate, HL.out]; omega)
   have hgl : ((upto false (l.map (gotQ l x y) ++ List.replicate (16 - n) false) i))[i]? = some false := upto_at _ _ (by rw [List.length_append, List.length_map, List.length_replicate, HL.out]; omega)
   generalize upto false (l.map (dueQ x) ++ List.replicate (16 - n) false) i = ds at *
   generalize upto false (l.map (gotQ l x y) ++ List.replicate (16 - n) false) i = gs at *
   have HLG := Lib.hid hgl
   clear hit hld hlg hgl
   have ke := he.cell
   unfold evC at ke hlk
   go_upto_region 7 with fail
   refine wp_abs (fun Wz => AGot w x y X Y M k f D1 D2 ds gs Wz ∧ BoxAt Wz E (evC q) 32 ∧ BoxAt Wz W4.heap.size (evC tt) 32) ⟨hA4.below ((Below.refl _ _).alloc (Nat.le_refl _) _), he.alloc _, BoxAt.new _ _ _⟩ ?_
   obtain ⟨T, hT⟩ : ∃ T, W4.heap.size = T := ⟨_, rfl⟩
   rw [hT]
   clear hT hA4 he ke hlk
   rintro W5 ⟨hA5, he, htb⟩
   have ke := he.cell
   have kx := hA5.x.cell
   unfold evC at ke kx
   have hix := idx16 D1 i hi16
   have c1 : W5.cell? ⟨D1, i, none⟩ = some (.bool false) := by rw [hA5.d.cell]; exact flags_get hdl
   have c2 := hA5.d.frozen i
   obtain ⟨r_, hr⟩ : ∃ r_, (q.re == 1) = r_ := ⟨_, rfl⟩
   cases r_
   ·
    have HD := Lib.hid (show dueQ x q = false by unfold dueQ; rw [hr]; rfl)
    go_upto_region 8 with fail
    have hDE : D1 ≠ E ∧ D1 ≠ T := ⟨fun h => by have h1 := hA5.d; rw [h] at h1; exact evflags he h1, fun h => by have h1 := hA5.d; rw [h] at h1; exact evflags htb h1⟩
    refine wp_abs (fun Wz => AGot w x y X Y M k f D1 D2 (ds.set i false) gs Wz ∧ BoxAt Wz E (evC q) 32 ∧ BoxAt Wz T (evC tt) 32) ⟨hA5.setD i _, he.set_ne (Ne.symm hDE.1) _ _, htb.set_ne (Ne.symm hDE.2) _ _⟩ ?_
    clear hix c1 c2 hA5 he htb hDE ke kx hr
    rintro W7 ⟨hA7, he, htb⟩
    have hdl2 : (ds.set i false)[i]? = some false := by rw [List.getElem?_set_self]; exact (List.getElem?_eq_some_iff.1 hdl).1
    have HS1 := Lib.hid (show ds.set i false = upto false (l.map (dueQ x) ++ List.replicate (16 - n) false) (i + 1) by rw [← HSD.out, HD.out])
    have e1 : W7.cell? ⟨D1, i, none⟩ = some (.bool false) := by rw [hA7.d.cell]; exact flags_get hdl2
    have e2 : W7.cell? ⟨D2, i, none⟩ = some (.bool false) := by rw [hA7.g.cell]; exact flags_get HLG.out
    have e3 := hA7.g.frozen i
    have hx1 := idx16 D1 i hi16
    have hx2 := idx16 D2 i hi16
    have ky := hA7.y.cell
    have kt := htb.cell
    unfold evC at ky kt
    rw [HS1.out] at hA7
    clear he htb hdl2
    go_wp2
    go_roundw
    case rel =>
     refine ⟨i + 1, by omega, by go_num, ?_⟩
     rw [← HSG.out, HD.out]
     exact hA7.setG i _
    case measure => simp [intOf]; omega
   ·
    go_wp2_with fail
    refine (iahd_any q x _).mono ?_
    rintro e W6 ⟨rfl, hb6⟩
    replace hA5 := hA5.below hb6
    replace he := he.below hb6 he.lt
    replace htb := htb.below hb6 htb.lt
    have c1 : W6.cell? ⟨D1, i, none⟩ = some (.bool false) := by rw [hA5.d.cell]; exact flags_get hdl
    have c2 := hA5.d.frozen i
    clear ke kx hb6
    obtain ⟨d_, hd⟩ : ∃ d_, decide (q.e < x.b) = d_ := ⟨_, rfl⟩
    have HD := Lib.hid (show dueQ x q = d_ by unfold dueQ; rw [hr, hd]; rfl)
    rw [hd]
    clear hd hr
    cases d_
    ·
     go_upto_region 8 with fail
     have hDE : D1 ≠ E ∧ D1 ≠ T := ⟨fun h => by have h1 := hA5.d; rw [h] at h1; exact evflags he h1, fun h => by have h1 := hA5.d; rw [h] at h1; exact evflags htb h1⟩
     refine wp_abs (fun Wz => AGot w x y X Y M k f D1 D2 (ds.set i false) gs Wz ∧ BoxAt Wz E (evC q) 32 ∧ BoxAt Wz T (evC tt) 32) ⟨hA5.setD i _, he.set_ne (Ne.symm hDE.1) _ _, htb.set_ne (Ne.symm hDE.2) _ _⟩ ?_
     clear hix c1 c2 hA5 he htb hDE
     rintro W7 ⟨hA7, he, htb⟩
     have hdl2 : (ds.set i false)[i]? = some false := by rw [List.getElem?_set_self]; exact (List.getElem?_eq_some_iff.1 hdl).1
     have HS1 := Lib.hid (show ds.set i false = upto false (l.map (dueQ x) ++ List.replicate (16 - n) false) (i + 1) by rw [← HSD.out, HD.out])
     have e1 : W7.cell? ⟨D1, i, none⟩ = some (.bool false) := by rw [hA7.d.cell]; exact flags_get hdl2
     have e2 : W7.cell? ⟨D2, i, none⟩ = some (.bool false) := by rw [hA7.g.cell]; exact flags_get HLG.out
     have e3 := hA7.g.frozen i
     have hx1 := idx16 D1 i hi16
     have hx2 := idx16 D2 i hi16
     have ky := hA7.y.cell
     have kt := htb.cell
     unfold evC at ky kt
     rw [HS1.out] at hA7
     clear he htb hdl2
     go_wp2
     go_roundw
     case rel =>
      refine ⟨i + 1, by omega, by go_num, ?_⟩
      rw [← HSG.out, HD.out]
      exact hA7.setG i _
     case measure => simp [intOf]; omega
    ·
     go_upto_region 8 with fail
     have hDE : D1 ≠ E ∧ D1 ≠ T := ⟨fun h => by have h1 := hA5.d; rw [h] at h1; exact evflags he h1, fun h => by have h1 := hA5.d; rw [h] at h1; exact evflags htb h1⟩
     refine wp_abs (fun Wz => AGot w x y X Y M k f D1 D2 (ds.set i true) gs Wz ∧ BoxAt Wz E (evC q) 32 ∧ BoxAt Wz T (evC tt) 32) ⟨hA5.setD i _, he.set_ne (Ne.symm hDE.1) _ _, htb.set_ne (Ne.symm hDE.2) _ _⟩ ?_
     clear hix c1 c2 hA5 he htb hDE
     rintro W7 ⟨hA7, he, htb⟩
     have hdl2 : (ds.set i true)[i]? = some true := by rw [List.getElem?_set_self]; exact (List.getElem?_eq_some_iff.1 hdl).1
     have HS1 := Lib.hid (show ds.set i true = upto false (l.map (dueQ x) ++ List.replicate (16 - n) false) (i + 1) by rw [← HSD.out, HD.out])
     have e1 : W7.cell? ⟨D1, i, none⟩ = some (.bool true) := by rw [hA7.d.cell]; exact flags_get hdl2
     have e2 : W7.cell? ⟨D2, i, none⟩ = some (.bool false) := by rw [hA7.g.cell]; exact flags_get HLG.out
     have e3 := hA7.g.frozen i
     have hx1 := idx16 D1 i hi16
     have hx2 := idx16 D2 i hi16
     have ky := hA7.y.cell
     have kt := htb.cell
     unfold evC at ky kt
     rw [HS1.out] at hA7
     clear he htb hdl2
     cases isb
     ·
      go_wp2
      go_roundw
      case rel =>
       refine ⟨i + 1, by omega, by go_num, ?_⟩
       rw [← HSG.out, HD.out]
       exact hA7.setG i _
      case measure => simp [intOf]; omega
     ·
      go_wp2_with fail
      refine (iahd_any y tt _).mono ?_
      rintro e W8 ⟨rfl, hb8⟩
      replace hA7 := hA7.below hb8
      have e2 : W8.cell? ⟨D2, i, none⟩ = some (.bool false) := by rw [hA7.g.cell]; exact flags_get HLG.out
      have e3 := hA7.g.frozen i
      clear ky kt e1 hb8
      obtain ⟨z_, hz⟩ : ∃ z_, decide (y.e < tt.b) = z_ := ⟨_, rfl⟩
      rw [hz]
      have HSZ := Lib.hid (show gs.set i (!z_) = upto false (l.map (gotQ l x y) ++ List.replicate (16 - n) false) (i + 1) by rw [← HSG.out, HD.out, hz]; rfl)
      clear hz
      cases z_
      all_goals
       go_wp2
       go_roundw
       case rel =>
        refine ⟨i + 1, by omega, by go_num, ?_⟩
        rw [← HSZ.out]
        exact hA7.setG i _
       case measure => simp [intOf]; omega
  ·
   have g1 : ¬ (i : Int) < (n : Int) := by omega
   obtain rfl : n = i := by omega
   have hd16 : (upto false (l.map (dueQ x) ++ List.replicate (16 - n) false) n).length = 16 := by rw [upto_len _ _ (by rw [List.length_append, List.length_map, List.length_replicate, HL.out]; omega), List.length_append, List.length_map, List.length_replicate, HL.out]; omega
   have hg16 : (upto false (l.map (gotQ l x y) ++ List.replicate (16 - n) false) n).length = 16 := by rw [upto_len _ _ (by rw [List.length_append, List.length_map, List.length_replicate, HL.out]; omega), List.length_append, List.length_map, List.length_replicate, HL.out]; omega
   have hup : ∀ q : Ev → Bool, upto false (l.map q ++ List.replicate (16 - n) false) n = l.map q ++ List.replicate (16 - n) false := fun q => by
    unfold upto
    rw [List.take_append_of_le_length (by rw [List.length_map, HL.out]; exact Nat.le_refl _), List.take_of_length_le (by rw [List.length_map, HL.out]; exact Nat.le_refl _), List.length_append, List.length_map, List.length_replicate, HL.out, show n + (16 - n) - n = 16 - n by omega]
   have heq : ∀ V, (binOp .eql 77 (.agg (flags (upto false (l.map (dueQ x) ++ List.replicate (16 - n) false) n))) (.agg (flags (upto false (l.map (gotQ l x y) ++ List.replicate (16 - n) false) n)))).run Tryz.prog V = .ok (.bool (allGotB l x y)) V := fun V => by
    rw [eql_flags _ _ hd16 hg16, hup, hup, allGot_eq]
   have hb := hA.b
   have k1 := hA.d.cell
   have k2 := hA.g.cell
   obtain ⟨a0, a1, a2, a3, a4, a5, a6, a7, a8, a9, a10, a11, a12, a13, a14, a15, hda⟩ := list16 hd16
   obtain ⟨b0, b1, b2, b3, b4, b5, b6, b7, b8, b9, b10, b11, b12, b13, b14, b15, hgb⟩ := list16 hg16
   rw [hda, hgb] at heq
   rw [hda] at k1
   rw [hgb] at k2
   simp only [flags, List.map_cons, List.map_nil] at k1 k2 heq
   clear hd16 hg16 hup hda hgb hA
   go_wp2
   go_ret
   exact .mk rfl hb
end Go.Proofs.YtiiaimjlohpemaaGreat

/-
 The program's facts of a story: InOrder, EmptyHeld.
-/
namespace Go.Proofs.YtiiaimjlohpemaaGreat
set_option linter.unusedSimpArgs false
set_option linter.unusedVariables false
open Go.RowKit Go.Shelf Go.Maps
set_option linter.unusedVariables false
attribute [local go_sem] Oper.semAt_some
attribute [local go_sem ↓] Go.wp_at_zero Go.wp_at_succ

def emptyR (l : List Ev) : Bool := (l.filter fun z => z.re == 3).all fun x => allGotB l x x

set_option maxRecDepth 100000 in
set_option maxHeartbeats 4000000 in
theorem emptyR_any (l : List Ev) (A : Option Addr) (n cap : Nat) (w : World) (h : EvsR w A n l) (hn : n ≤ 16) (hv : ∀ x ∈ l, 0 ≤ x.v ∧ x.v ≤ 1000000) :
  Calls Tryz.prog 23 #[.slice A n cap] w (RetBelow (.bool (emptyR l)) w) := by
 refine (callsIn_wide (n := 3)).1 ?_
 refine callsIn_of_wp_marks Tryz.func23 rfl trivial ?_ rfl
 simp only [Tryz.ntmps23, List.size_toArray, List.length_cons, List.length_nil, Nat.reduceAdd, Nat.reduceSub, Array.replicate_succ, Array.replicate_zero, List.push_toArray, List.append_toArray, List.nil_append, List.cons_append]
 gi_upto_region 1 with fail
 have hB0 : Below w.heap.size w ((w.alloc (.cells #[.slice A n cap] 24)).alloc (.cells #[.bool false] 4)) := ((Below.refl _ _).alloc (Nat.le_refl _) _).alloc (by simp) _
 have hy0 : BoxAt ((w.alloc (.cells #[.slice A n cap] 24)).alloc (.cells #[.bool false] 4)) w.heap.size #[.slice A n cap] 24 := (BoxAt.new _ _ _).alloc _
 have hx0 : BoxAt ((w.alloc (.cells #[.slice A n cap] 24)).alloc (.cells #[.bool false] 4)) (w.heap.size + 1) #[.bool false] 4 := BoxAt.new' (by simp)
 have hs0 : ((w.alloc (.cells #[.slice A n cap] 24)).alloc (.cells #[.bool false] 4)).heap.size = w.heap.size + 2 := by simp
 generalize (w.alloc (.cells #[.slice A n cap] 24)).alloc (.cells #[.bool false] 4) = W at *
 obtain ⟨X, hX⟩ : ∃ X, w.heap.size + 1 = X := ⟨_, rfl⟩
 obtain ⟨Y, hY⟩ : ∃ Y, w.heap.size = Y := ⟨_, rfl⟩
 rw [hX] at hx0 ⊢
 rw [hY] at hy0 ⊢
 have hYw : w.heap.size ≤ Y := by omega
 have hXY : Y < X := by omega
 have hXW : X < W.heap.size := by omega
 clear hX hY hs0
 have ky := hy0.cell
 gi_wp2_with fail
 refine ⟨trivial, (callsIn_wide.2 (replied_any A n cap 3 W)).mono ?_⟩
 rintro e W5 ⟨rfl, hq5⟩
 have hb5 : Below W.heap.size W W5 := by rw [hq5]; exact ((Below.refl _ _).alloc (Nat.le_refl _) _).alloc (by simp) _
 have hPl : BoxAt W5 W.heap.size #[.slice A n cap] 24 := by rw [hq5]; exact (BoxAt.new _ _ _).alloc _
 have hPr : BoxAt W5 (W.heap.size + 1) #[.int .i64 3] 2 := by rw [hq5]; exact BoxAt.new' (by simp)
 have hs5 : W5.heap.size = W.heap.size + 2 := by rw [hq5]; simp
 clear hq5
 obtain ⟨P, hP⟩ : ∃ P, W.heap.size = P := ⟨_, rfl⟩
 replace hB0 := bstep hB0 hB0.size hb5
 replace hy0 := hy0.below hb5 hy0.lt
 replace hx0 := hx0.below hb5 hx0.lt
 rw [hP] at hPl hPr hs5 hXW ⊢
 have hsP : P + 2 ≤ W5.heap.size := by omega
 clear hb5 hP hs5 ky
 gi_wp2_with fail
 refine wpIn_rep w (P₀ := P) rfl h (by omega) hB0 (by omega) hsP hPl hPr
  (fun ys Wy => (BoxAt Wy Y #[.slice A n cap] 24 ∧ BoxAt Wy X #[.bool false] 4) ∧ ys.all (fun x => allGotB l x x) = true)
  (fun ys Wy => BoxAt Wy X #[.bool false] 4 ∧ ys.all (fun x => allGotB l x x) = false)
  (OwnFrom.and (OwnFrom.and box_own box_own) (ownFrom_pure _ (fun ys : List Ev => ys.all (fun x => allGotB l x x) = true)))
  (OwnFrom.and box_own (ownFrom_pure _ (fun ys : List Ev => ys.all (fun x => allGotB l x x) = false)))
  ⟨⟨hy0, hx0⟩, rfl⟩ (fun x E => { tmps := #[.slice A n cap, pT Y, pT X, pT E, .slice A n cap, .func (.func 35) #[] #[pT P, pT (P + 1)], .agg #[x.who, x.put, x.v, x.re, x.b, x.e], undef, undef, undef, undef, undef], defers := [] }) ?assign ?body ?done ?stop
 case assign =>
  intro lp x Wy K hK
  unfold evC at hK ⊢
  gi_wp2
  simpa using hK
 case body =>
  rintro lp ys x E Wy hE hxl hxr hB hsz hx ⟨⟨hy, hr⟩, hal⟩ hlen
  have kx := hx.cell
  have ky := hy.cell
  unfold evC at kx
  gi_wp2_with fail
  refine ⟨trivial, (callsIn_wide.2 (allGot_any l x x A n cap Wy (h.below hB) hn hv)).mono ?_⟩
  rintro e W3 ⟨rfl, hb3⟩
  have hr3 := hr.below hb3 hr.lt
  have hy3 := hy.below hb3 hy.lt
  have kr := hr3.cell
  have fr := hr3.frozen
  clear kx ky
  cases hp : allGotB l x x
  ·
   have HA := Lib.hid (show (ys ++ [x]).all (fun x => allGotB l x x) = false by rw [List.all_append, hal]; simp [hp])
   clear hal hp
   gi_wp2
   exact ⟨⟨X, by omega, by omega, (But.of_below hb3).set 0 _⟩, hr3.set 0 _, HA.out⟩
  ·
   have HA := Lib.hid (show (ys ++ [x]).all (fun x => allGotB l x x) = true by rw [List.all_append, hal]; simp [hp])
   clear hal hp
   gi_wp2
   exact ⟨⟨X, by omega, by omega, .of_below hb3⟩, ⟨hy3, hr3⟩, HA.out⟩
 case done =>
  rintro D Wd hD hB hsz ⟨⟨hy, hr⟩, hal⟩ hdef
  have HDF := Lib.hid hdef
  have HR := Lib.hid (show emptyR l = true from hal)
  have kr := hr.cell
  have fr := hr.frozen
  clear hdef hal
  gi_wp2
  have hd2 := (KeepsOthers.setCell Wd ⟨X, 0, none⟩ (.bool true)).same D _ HDF.out rfl
  refine leavesR (M := w.heap.size) (fun Wg => BoxAt Wg X #[.bool true] 4 ∧ Below w.heap.size w Wg) (fun Wg hG => ?_) (fun Wg D hD hG hs => ⟨box_own (β := Unit) (C := 0) () _ _ (some D) hG.1 (grownBy_putObj' _ D (.deferred none)) (fun r e => by cases e; exact ⟨Nat.zero_le _, _, hs, rfl⟩), hG.2.trans (belowK_b (w := w) (Nat.le_refl _) _ D _ _ hD hs rfl rfl)⟩) [D] _ (by simp) (fun E hE => by obtain rfl : E = D := List.mem_singleton.1 hE; exact ⟨by omega, hd2⟩) ⟨hr.set 0 _, hB.setCell (p := ⟨X, 0, none⟩) (by simp; omega) _⟩
  have kg := hG.1.cell
  exact ⟨.bool true, by simp [results, Tryz.results23, go_sem, kg], .mk (congrArg Value.bool HR.out.symm) hG.2⟩
 case stop =>
  rintro D ys Ws hD hB hsz hpre ⟨hr, hal⟩ hdef
  have HR := Lib.hid (show emptyR l = false by
   obtain ⟨s, hs⟩ := hpre
   unfold emptyR
   rw [← hs, List.all_append, hal]; rfl)
  clear hal
  gi_wp2
  refine leavesR (M := w.heap.size) (fun Wg => BoxAt Wg X #[.bool false] 4 ∧ Below w.heap.size w Wg) (fun Wg hG => ?_) (fun Wg D hD hG hs => ⟨box_own (β := Unit) (C := 0) () _ _ (some D) hG.1 (grownBy_putObj' _ D (.deferred none)) (fun r e => by cases e; exact ⟨Nat.zero_le _, _, hs, rfl⟩), hG.2.trans (belowK_b (w := w) (Nat.le_refl _) _ D _ _ hD hs rfl rfl)⟩) [D] _ (by simp) (fun E hE => by obtain rfl : E = D := List.mem_singleton.1 hE; exact ⟨by omega, hdef⟩) ⟨hr, hB⟩
  have kg := hG.1.cell
  exact ⟨.bool false, by simp [results, Tryz.results23, go_sem, kg], .mk (congrArg Value.bool HR.out.symm) hG.2⟩

def putInTime (l : List Ev) (p : Ev) : Bool := match takeOf (gotsF l) p.v with
 | some t => allGotB l p t
 | none => true
def gotOrd (l : List Ev) : Bool := (putsF l).all (putInTime l)

set_option maxRecDepth 100000 in
set_option maxHeartbeats 4000000 in
theorem gotOrd_any (l : List Ev) (A : Option Addr) (n cap : Nat) (w : World) (h : EvsR w A n l) (hn : n ≤ 16) (hv : ∀ x ∈ l, 0 ≤ x.v ∧ x.v ≤ 1000000) :
  Calls Tryz.prog 22 #[.slice A n cap] w (RetBelow (.bool (gotOrd l)) w) := by
 refine (callsIn_wide (n := 3)).1 ?_
 refine callsIn_of_wp_marks Tryz.func22 rfl trivial ?_ rfl
 simp only [Tryz.ntmps22, List.size_toArray, List.length_cons, List.length_nil, Nat.reduceAdd, Nat.reduceSub, Array.replicate_succ, Array.replicate_zero, List.push_toArray, List.append_toArray, List.nil_append, List.cons_append]
 gi_upto_region 1 with fail
 have hB0 : Below w.heap.size w ((w.alloc (.cells #[.slice A n cap] 24)).alloc (.cells #[.bool false] 4)) := ((Below.refl _ _).alloc (Nat.le_refl _) _).alloc (by simp) _
 have hy0 : BoxAt ((w.alloc (.cells #[.slice A n cap] 24)).alloc (.cells #[.bool false] 4)) w.heap.size #[.slice A n cap] 24 := (BoxAt.new _ _ _).alloc _
 have hx0 : BoxAt ((w.alloc (.cells #[.slice A n cap] 24)).alloc (.cells #[.bool false] 4)) (w.heap.size + 1) #[.bool false] 4 := BoxAt.new' (by simp)
 have hs0 : ((w.alloc (.cells #[.slice A n cap] 24)).alloc (.cells #[.bool false] 4)).heap.size = w.heap.size + 2 := by simp
 generalize (w.alloc (.cells #[.slice A n cap] 24)).alloc (.cells #[.bool false] 4) = W at *
 obtain ⟨X, hX⟩ : ∃ X, w.heap.size + 1 = X := ⟨_, rfl⟩
 obtain ⟨Y, hY⟩ : ∃ Y, w.heap.size = Y := ⟨_, rfl⟩
 rw [hX] at hx0 ⊢
 rw [hY] at hy0 ⊢
 have hYw : w.heap.size ≤ Y := by omega
 have hXY : Y < X := by omega
 have hXW : X < W.heap.size := by omega
 clear hX hY hs0
 have ky := hy0.cell
 gi_wp2_with fail
 refine ⟨trivial, (callsIn_wide.2 (takes_any l A n cap W (h.below hB0) (by omega) hv)).mono ?_⟩
 rintro e W1 ⟨M, k, f, rfl, hM, hm0, hf, hb1⟩
 have HF := Lib.hid hf
 have hXM : X < M := Nat.lt_of_lt_of_le hx0.lt hM
 replace hB0 := bstep hB0 hB0.size hb1
 replace hy0 := hy0.below hb1 hy0.lt
 replace hx0 := hx0.below hb1 hx0.lt
 clear hb1 hf hM ky hXW
 gi_upto_region 2 with fail
 have hba : Below W1.heap.size W1 (W1.alloc (.cells #[.map (some M)] 49)) := (Below.refl _ _).alloc (Nat.le_refl _) _
 have hz0 : BoxAt (W1.alloc (.cells #[.map (some M)] 49)) W1.heap.size #[.map (some M)] 49 := BoxAt.new _ _ _
 have hMZ := hm0.lt
 replace hB0 := bstep hB0 hB0.size hba
 replace hy0 := hy0.below hba hy0.lt
 replace hx0 := hx0.below hba hx0.lt
 replace hm0 := hm0.below hba
 have hZW : W1.heap.size < (W1.alloc (.cells #[.map (some M)] 49)).heap.size := by simp
 generalize W1.alloc (.cells #[.map (some M)] 49) = W2 at *
 obtain ⟨Z, hZ⟩ : ∃ Z, W1.heap.size = Z := ⟨_, rfl⟩
 rw [hZ] at hz0 hMZ hZW ⊢
 clear hZ hba
 have ky := hy0.cell
 gi_wp2_with fail
 refine ⟨trivial, (callsIn_wide.2 (replied_any A n cap 1 W2)).mono ?_⟩
 rintro e W5 ⟨rfl, hq5⟩
 have hb5 : Below W2.heap.size W2 W5 := by rw [hq5]; exact ((Below.refl _ _).alloc (Nat.le_refl _) _).alloc (by simp) _
 have hPl : BoxAt W5 W2.heap.size #[.slice A n cap] 24 := by rw [hq5]; exact (BoxAt.new _ _ _).alloc _
 have hPr : BoxAt W5 (W2.heap.size + 1) #[.int .i64 1] 2 := by rw [hq5]; exact BoxAt.new' (by simp)
 have hs5 : W5.heap.size = W2.heap.size + 2 := by rw [hq5]; simp
 clear hq5
 obtain ⟨P, hP⟩ : ∃ P, W2.heap.size = P := ⟨_, rfl⟩
 replace hB0 := bstep hB0 hB0.size hb5
 replace hy0 := hy0.below hb5 hy0.lt
 replace hx0 := hx0.below hb5 hx0.lt
 replace hz0 := hz0.below hb5 hz0.lt
 replace hm0 := hm0.below hb5
 rw [hP] at hPl hPr hs5 hZW ⊢
 have hsP : P + 2 ≤ W5.heap.size := by omega
 clear hb5 hP hs5 ky
 gi_wp2_with fail
 refine wpIn_rep w (P₀ := P) rfl h (by omega) hB0 (by omega) hsP hPl hPr
  (fun ys Wy => ((BoxAt Wy Y #[.slice A n cap] 24 ∧ BoxAt Wy X #[.bool false] 4) ∧ BoxAt Wy Z #[.map (some M)] 49 ∧ MapIs Wy M k f) ∧ ys.all (putInTime l) = true)
  (fun ys Wy => BoxAt Wy X #[.bool false] 4 ∧ ys.all (putInTime l) = false)
  (OwnFrom.and (OwnFrom.and (OwnFrom.and box_own box_own) (OwnFrom.and box_own (mapIs_own (by omega)))) (ownFrom_pure _ (fun ys : List Ev => ys.all (putInTime l) = true)))
  (OwnFrom.and box_own (ownFrom_pure _ (fun ys : List Ev => ys.all (putInTime l) = false)))
  ⟨⟨⟨hy0, hx0⟩, hz0, hm0⟩, rfl⟩ (fun x E => { tmps := #[.slice A n cap, pT Y, pT X, pT Z, pT E, undef, undef, .slice A n cap, .map (some M), .slice A n cap, .func (.func 35) #[] #[pT P, pT (P + 1)], .agg #[x.who, x.put, x.v, x.re, x.b, x.e], undef, undef, undef, undef, undef, undef, undef, undef, undef, undef, undef, undef, undef, undef, undef], defers := [] }) ?assign ?body ?done ?stop
 case assign =>
  intro lp x Wy K hK
  unfold evC at hK ⊢
  gi_wp2
  simpa using hK
 case body =>
  rintro lp ys x E Wy hE hxl hxr hB hsz hx ⟨⟨⟨hy, hr⟩, hz, hm⟩, hal⟩ hlen
  have kx := hx.cell
  have kz := hz.cell
  unfold evC at kx
  have hkw := key_wf (hv x hxl).1 (hv x hxl).2
  have hlk := hm.lookOk Tryz.underlying49 (zero_e Wy) hkw
  rw [HF.out] at hlk
  obtain ⟨t_, ht⟩ : ∃ t_, takeOf (gotsF l) x.v = t_ := ⟨_, rfl⟩
  rw [ht] at hlk
  cases t_ with
  | none =>
   have HA := Lib.hid (show (ys ++ [x]).all (putInTime l) = true by rw [List.all_append, hal]; simp [putInTime, ht])
   simp only [Option.map_none, Option.getD_none, Option.isSome_none] at hlk
   clear ht hal
   have hba : Below Wy.heap.size Wy (Wy.alloc (.cells #[.int .i64 0, .bool false, .int .i64 0, .int .i64 0, .int .i64 0, .int .i64 0] 32)) := (Below.refl _ _).alloc (Nat.le_refl _) _
   gi_wp2
   refine ⟨trivial, ?_⟩
   gi_wp2
   exact ⟨⟨X, by omega, by omega, .of_below hba⟩, ⟨⟨hy.below hba hy.lt, hr.below hba hr.lt⟩, hz.below hba hz.lt, hm.below hba⟩, HA.out⟩
  | some t =>
   have HT := Lib.hid ht
   simp only [Option.map_some, Option.getD_some, Option.isSome_some] at hlk
   unfold evC at hlk
   clear ht
   gi_upto_region 5 with fail
   have hba : Below Wy.heap.size Wy (Wy.alloc (.cells #[t.who, t.put, t.v, t.re, t.b, t.e] 32)) := (Below.refl _ _).alloc (Nat.le_refl _) _
   have htb : BoxAt (Wy.alloc (.cells #[t.who, t.put, t.v, t.re, t.b, t.e] 32)) Wy.heap.size (evC t) 32 := BoxAt.new _ _ _
   have hx2 := hx.below hba hx.lt
   have hy2 := hy.below hba hy.lt
   have hr2 := hr.below hba hr.lt
   have hz2 := hz.below hba hz.lt
   have hm2 := hm.below hba
   have hB2 := bstep hB hB.size hba
   clear kx kz hlk
   have HBA := Lib.hid hba
   clear hba
   replace hba := HBA.out
   generalize Wy.alloc (.cells #[t.who, t.put, t.v, t.re, t.b, t.e] 32) = Wt at *
   obtain ⟨T, hT⟩ : ∃ T, Wy.heap.size = T := ⟨_, rfl⟩
   rw [hT] at htb ⊢
   have kx := hx2.cell
   have ky := hy2.cell
   have kt := htb.cell
   unfold evC at kx kt
   gi_wp2_with fail
   refine ⟨trivial, (callsIn_wide.2 (allGot_any l x t A n cap Wt (h.below hB2) hn hv)).mono ?_⟩
   rintro e W3 ⟨rfl, hb3⟩
   have hr3 := hr2.below hb3 hr2.lt
   have hy3 := hy2.below hb3 hy2.lt
   have hz3 := hz2.below hb3 hz2.lt
   have hm3 := hm2.below hb3
   have kr := hr3.cell
   have fr := hr3.frozen
   have hbw : Below Wy.heap.size Wy W3 := hba.trans (hb3.mono hba.size)
   clear kx ky kt
   cases hp : allGotB l x t
   ·
    have HA := Lib.hid (show (ys ++ [x]).all (putInTime l) = false by rw [List.all_append, hal]; simp [putInTime, HT.out, hp])
    clear hal hp
    gi_wp2
    exact ⟨⟨X, by omega, by omega, (But.of_below hbw).set 0 _⟩, hr3.set 0 _, HA.out⟩
   ·
    have HA := Lib.hid (show (ys ++ [x]).all (putInTime l) = true by rw [List.all_append, hal]; simp [putInTime, HT.out, hp])
    clear hal hp
    gi_wp2
    exact ⟨⟨X, by omega, by omega, .of_below hbw⟩, ⟨⟨hy3, hr3⟩, hz3, hm3⟩, HA.out⟩
 case done =>
  rintro D Wd hD hB hsz ⟨⟨⟨hy, hr⟩, hz, hm⟩, hal⟩ hdef
  have HDF := Lib.hid hdef
  have HR := Lib.hid (show gotOrd l = true from hal)
  have kr := hr.cell
  have fr := hr.frozen
  clear hdef hal hm
  gi_wp2
  have hd2 := (KeepsOthers.setCell Wd ⟨X, 0, none⟩ (.bool true)).same D _ HDF.out rfl
  refine leavesR (M := w.heap.size) (fun Wg => BoxAt Wg X #[.bool true] 4 ∧ Below w.heap.size w Wg) (fun Wg hG => ?_) (fun Wg D hD hG hs => ⟨box_own (β := Unit) (C := 0) () _ _ (some D) hG.1 (grownBy_putObj' _ D (.deferred none)) (fun r e => by cases e; exact ⟨Nat.zero_le _, _, hs, rfl⟩), hG.2.trans (belowK_b (w := w) (Nat.le_refl _) _ D _ _ hD hs rfl rfl)⟩) [D] _ (by simp) (fun E hE => by obtain rfl : E = D := List.mem_singleton.1 hE; exact ⟨by omega, hd2⟩) ⟨hr.set 0 _, hB.setCell (p := ⟨X, 0, none⟩) (by simp; omega) _⟩
  have kg := hG.1.cell
  exact ⟨.bool true, by simp [results, Tryz.results22, go_sem, kg], .mk (congrArg Value.bool HR.out.symm) hG.2⟩
 case stop =>
  rintro D ys Ws hD hB hsz hpre ⟨hr, hal⟩ hdef
  have HR := Lib.hid (show gotOrd l = false by
   obtain ⟨s, hs⟩ := hpre
   unfold gotOrd putsF
   rw [← hs, List.all_append, hal]; rfl)
  clear hal
  gi_wp2
  refine leavesR (M := w.heap.size) (fun Wg => BoxAt Wg X #[.bool false] 4 ∧ Below w.heap.size w Wg) (fun Wg hG => ?_) (fun Wg D hD hG hs => ⟨box_own (β := Unit) (C := 0) () _ _ (some D) hG.1 (grownBy_putObj' _ D (.deferred none)) (fun r e => by cases e; exact ⟨Nat.zero_le _, _, hs, rfl⟩), hG.2.trans (belowK_b (w := w) (Nat.le_refl _) _ D _ _ hD hs rfl rfl)⟩) [D] _ (by simp) (fun E hE => by obtain rfl : E = D := List.mem_singleton.1 hE; exact ⟨by omega, hdef⟩) ⟨hr, hB⟩
  have kg := hG.1.cell
  exact ⟨.bool false, by simp [results, Tryz.results22, go_sem, kg], .mk (congrArg Value.bool HR.out.symm) hG.2⟩

set_option maxHeartbeats 1000000 in
theorem iinOrder_any (l : List Ev) (A : Option Addr) (n cap : Nat) (w : World) (h : EvsR w A n l) (hn : n ≤ 1048576) :
  Calls Tryz.prog 7 #[.slice A n cap] w (RetBelow (.bool (storyOk l && (anyTwice l || gotOrd l))) w) := by
 have HL := Lib.hid h.1
 go_enter Tryz.func7, Tryz.ntmps7
 go_wp2_with fail
 refine (istory_any l A n cap _ h hn).mono ?_
 rintro e w1 ⟨rfl, hB⟩
 have h1 := h.below hB
 cases hok : storyOk l
 ·
  have HR := Lib.hid (show (storyOk l && (anyTwice l || gotOrd l)) = false by rw [hok]; rfl)
  clear hok
  go_wp2
  go_ret
  exact .mk (congrArg Value.bool HR.out.symm) hB
 have HOK := Lib.hid hok
 have hv := story_vals hok
 have h16 : n ≤ 16 := by
  unfold storyOk at hok
  simp only [Bool.and_eq_true, decide_eq_true_eq] at hok
  have := HL.out
  omega
 clear hok
 go_wp2_with fail
 refine (anyTwice_any l A n cap _ h1 hn hv).mono ?_
 rintro e w2 ⟨rfl, hb2⟩
 have h2 := h1.below hb2
 replace hB := bstep hB hB.size hb2
 cases htw : anyTwice l
 case true =>
  have HR := Lib.hid (show (storyOk l && (anyTwice l || gotOrd l)) = true by rw [HOK.out, htw]; rfl)
  clear htw
  go_wp2
  go_ret
  exact .mk (congrArg Value.bool HR.out.symm) hB
 have HR := Lib.hid (show (storyOk l && (anyTwice l || gotOrd l)) = gotOrd l by rw [HOK.out, htw]; rfl)
 clear htw
 go_wp2_with fail
 refine (gotOrd_any l A n cap _ h2 h16 hv).mono ?_
 rintro e w3 ⟨rfl, hb3⟩
 go_wp2
 go_ret
 exact .mk (congrArg Value.bool HR.out.symm) (bstep hB hB.size hb3)

set_option maxHeartbeats 1000000 in
theorem iempty_any (l : List Ev) (A : Option Addr) (n cap : Nat) (w : World) (h : EvsR w A n l) (hn : n ≤ 1048576) :
  Calls Tryz.prog 8 #[.slice A n cap] w (RetBelow (.bool (storyOk l && (anyTwice l || emptyR l))) w) := by
 have HL := Lib.hid h.1
 go_enter Tryz.func8, Tryz.ntmps8
 go_wp2_with fail
 refine (istory_any l A n cap _ h hn).mono ?_
 rintro e w1 ⟨rfl, hB⟩
 have h1 := h.below hB
 cases hok : storyOk l
 ·
  have HR := Lib.hid (show (storyOk l && (anyTwice l || emptyR l)) = false by rw [hok]; rfl)
  clear hok
  go_wp2
  go_ret
  exact .mk (congrArg Value.bool HR.out.symm) hB
 have HOK := Lib.hid hok
 have hv := story_vals hok
 have h16 : n ≤ 16 := by
  unfold storyOk at hok
  simp only [Bool.and_eq_true, decide_eq_true_eq] at hok
  have := HL.out
  omega
 clear hok
 go_wp2_with fail
 refine (anyTwice_any l A n cap _ h1 hn hv).mono ?_
 rintro e w2 ⟨rfl, hb2⟩
 have h2 := h1.below hb2
 replace hB := bstep hB hB.size hb2
 cases htw : anyTwice l
 case true =>
  have HR := Lib.hid (show (storyOk l && (anyTwice l || emptyR l)) = true by rw [HOK.out, htw]; rfl)
  clear htw
  go_wp2
  go_ret
  exact .mk (congrArg Value.bool HR.out.symm) hB
 have HR := Lib.hid (show (storyOk l && (anyTwice l || emptyR l)) = emptyR l by rw [HOK.out, htw]; rfl)
 clear htw
 go_wp2_with fail
 refine (emptyR_any l A n cap _ h2 h16 hv).mono ?_
 rintro e w3 ⟨rfl, hb3⟩
 go_wp2
 go_ret
 exact .mk (congrArg Value.bool HR.out.symm) (bstep hB hB.size hb3)

end Go.Proofs.YtiiaimjlohpemaaGreat

/-
 What the program's facts answer is what the model's answer.
-/
namespace Go.Proofs.YtiiaimjlohpemaaGreat
set_option linter.unusedSimpArgs false
set_option linter.unusedVariables false
open Go.RowKit
set_option linter.unusedVariables false

theorem count_cnt (ys : List Ev) (v : Int) : (ys.map Ev.v).count v = cntV ys v := by
 unfold cntV
 induction ys with
 | nil => rfl
 | cons y ys ih =>
  rw [List.map_cons, List.count_cons, ih, List.filter_cons]
  cases h : (y.v == v) <;> simp
theorem nodup_cnt (ys : List Ev) : (ys.map Ev.v).Nodup ↔ ∀ x ∈ ys, cntV ys x.v ≤ 1 := by
 rw [List.nodup_iff_count]
 constructor
 ·
  intro h x _
  rw [← count_cnt]; exact h _
 ·
  intro h a
  rw [count_cnt]
  by_cases ha : ∃ x ∈ ys, x.v = a
  · obtain ⟨x, hx, rfl⟩ := ha; exact h x hx
  ·
   have : cntV ys a = 0 := by
    unfold cntV
    rw [List.length_eq_zero_iff, List.filter_eq_nil_iff]
    intro x hx e
    exact ha ⟨x, hx, by simpa using e⟩
   omega
theorem nodup_inj : ∀ {ys : List Ev}, (ys.map Ev.v).Nodup → ∀ x ∈ ys, ∀ y ∈ ys, x.v = y.v → x = y
 | [], _, x, hx, _, _, _ => by simp at hx
 | z :: ys, h, x, hx, y, hy, e => by
  rw [List.map_cons, List.nodup_cons] at h
  rcases List.mem_cons.1 hx with e1 | hx1
  ·
   rcases List.mem_cons.1 hy with e2 | hy1
   · rw [e1, e2]
   · exact absurd (by rw [← e1, e]; exact List.mem_map_of_mem hy1) h.1
  ·
   rcases List.mem_cons.1 hy with e2 | hy1
   · exact absurd (by rw [← e2, ← e]; exact List.mem_map_of_mem hx1) h.1
   · exact nodup_inj h.2 x hx1 y hy1 e
theorem mem_gotsF {l : List Ev} {x : Ev} : x ∈ gotsF l ↔ x ∈ l ∧ x.re = 4 := by unfold gotsF; rw [List.mem_filter]; simp
theorem mem_putsF {l : List Ev} {x : Ev} : x ∈ putsF l ↔ x ∈ l ∧ x.re = 1 := by unfold putsF; rw [List.mem_filter]; simp
theorem anyTwice_eq {l : List Ev} (hev : ∀ x ∈ l, evOk x = true) : anyTwice l = twiceB l := by
 rw [Bool.eq_iff_iff]
 unfold anyTwice twiceB
 simp only [Bool.or_eq_true, Bool.not_eq_true', decide_eq_false_iff_not, nodup_cnt, List.any_eq_true, Bool.and_eq_true, decide_eq_true_eq, beq_eq_false_iff_ne]
 constructor
 ·
  rintro (h | h)
  ·
   obtain ⟨x, h⟩ := Classical.not_forall.1 h
   obtain ⟨hx, h⟩ := Classical.not_imp.1 h
   have hm := mem_putsF.1 hx
   have h1 := ev_put (hev x hm.1)
   refine ⟨x, hm.1, ⟨by omega, h1.2.2.2.2.2.1 (.inl hm.2)⟩, ?_⟩
   rw [h1.1 hm.2, times_puts hev]; omega
  ·
   obtain ⟨x, h⟩ := Classical.not_forall.1 h
   obtain ⟨hx, h⟩ := Classical.not_imp.1 h
   have hm := mem_gotsF.1 hx
   have h1 := ev_put (hev x hm.1)
   refine ⟨x, hm.1, ⟨by omega, h1.2.2.2.2.2.1 (.inr hm.2)⟩, ?_⟩
   rw [h1.2.1 hm.2, times_gots hev]; omega
 ·
  rintro ⟨x, hx, ⟨hr, hv⟩, ht⟩
  have h1 := ev_put (hev x hx)
  rcases h1.2.2.2.2.1 with h2 | h2 | h2 | h2
  ·
   refine .inl fun h => ?_
   have := h x (mem_putsF.2 ⟨hx, h2⟩)
   rw [h1.1 h2, times_puts hev] at ht
   omega
  · exact absurd h2 hr
  · have := h1.2.2.2.2.2.2.1 h2; omega
  ·
   refine .inr fun h => ?_
   have := h x (mem_gotsF.2 ⟨hx, h2⟩)
   rw [h1.2.1 h2, times_gots hev] at ht
   omega
theorem find_take {l : List Ev} (hn : ((gotsF l).map Ev.v).Nodup) (v : Int) : (l.find? fun x => x.re == 4 && x.v == v) = takeOf (gotsF l) v := by
 cases ht : takeOf (gotsF l) v with
 | none =>
  rw [List.find?_eq_none]
  intro x hx h
  simp only [Bool.and_eq_true, beq_iff_eq] at h
  exact takeOf_none ht x (mem_gotsF.2 ⟨hx, h.1⟩) h.2
 | some t =>
  have h1 := takeOf_mem ht
  cases hf : l.find? fun x => x.re == 4 && x.v == v with
  | none =>
   rw [List.find?_eq_none] at hf
   have h2 := mem_gotsF.1 h1.1
   exact absurd (by simp [h2.2, h1.2]) (hf t h2.1)
  | some u =>
   have h2 := List.mem_of_find?_eq_some hf
   have h3 := List.find?_some hf
   simp only [Bool.and_eq_true, beq_iff_eq] at h3
   rw [nodup_inj hn u (mem_gotsF.2 ⟨h2, h3.1⟩) t h1.1 (by rw [h3.2, h1.2])]
theorem gotB_eq {l : List Ev} (hn : ((gotsF l).map Ev.v).Nodup) (v : Int) (o : Ev) : gotB l v o = inTime l o v := by
 unfold gotB inTime
 rw [find_take hn]
 cases takeOf (gotsF l) v <;> rfl
theorem iEmpty_eq (l : List Ev) : (storyOk l && (anyTwice l || emptyR l)) = emptyHeld l := by
 unfold emptyHeld
 cases hok : storyOk l
 · rfl
 have hev := story_ev hok
 rw [← anyTwice_eq hev]
 cases htw : anyTwice l
 ·
  have hn : ((gotsF l).map Ev.v).Nodup := by
   unfold anyTwice at htw
   simp only [Bool.or_eq_false_iff, Bool.not_eq_false', decide_eq_true_eq] at htw
   exact htw.2
  simp only [Bool.true_and, Bool.false_or]
  rw [Bool.eq_iff_iff]
  unfold emptyR allGotB
  simp only [List.all_eq_true, List.mem_filter, gotB_eq hn, dueQ, Bool.or_eq_true, Bool.not_eq_true', Bool.and_eq_false_iff, beq_eq_false_iff_ne, decide_eq_false_iff_not, beq_iff_eq, and_imp]
  constructor
  ·
   intro h x hx y hy
   by_cases hr : x.re = 3
   ·
    rcases h x hx hr y hy with (h1 | h1) | h1
    · exact .inl (.inl (.inr h1))
    · exact .inl (.inr h1)
    · exact .inr h1
   · exact .inl (.inl (.inl hr))
  ·
   intro h x hx hr y hy
   rcases h x hx y hy with ((h1 | h1) | h1) | h1
   · exact absurd hr h1
   · exact .inl (.inl h1)
   · exact .inl (.inr h1)
   · exact .inr h1
 · rfl
theorem iInOrder_eq (l : List Ev) : (storyOk l && (anyTwice l || gotOrd l)) = inOrder l := by
 unfold inOrder
 cases hok : storyOk l
 · rfl
 have hev := story_ev hok
 rw [← anyTwice_eq hev]
 cases htw : anyTwice l
 ·
  have hn : ((gotsF l).map Ev.v).Nodup := by
   unfold anyTwice at htw
   simp only [Bool.or_eq_false_iff, Bool.not_eq_false', decide_eq_true_eq] at htw
   exact htw.2
  simp only [Bool.true_and, Bool.false_or]
  rw [Bool.eq_iff_iff]
  unfold gotOrd
  simp only [List.all_eq_true, gotB_eq hn, Bool.or_eq_true, Bool.not_eq_true', Bool.and_eq_false_iff, beq_eq_false_iff_ne, decide_eq_false_iff_not]
  constructor
  ·
   intro h x hx y hy
   by_cases hxr : x.re = 1
   ·
    by_cases hyr : y.re = 1
    ·
     by_cases ha : x.e < y.b
     ·
      refine .inr fun z hz => ?_
      by_cases hzr : z.re = 4
      ·
       by_cases hzv : z.v = y.v
       ·
        refine .inr ?_
        have h1 := h y (mem_putsF.2 ⟨hy, hyr⟩)
        unfold putInTime at h1
        cases ht : takeOf (gotsF l) y.v with
        | none => exact absurd hzv (takeOf_none ht z (mem_gotsF.2 ⟨hz, hzr⟩))
        | some t =>
         rw [ht] at h1
         have h2 := takeOf_mem ht
         obtain rfl := nodup_inj hn z (mem_gotsF.2 ⟨hz, hzr⟩) t h2.1 (by rw [hzv, h2.2])
         unfold allGotB at h1
         have h3 := (List.all_eq_true.1 h1) x hx
         have h4 : dueQ y x = true := by simp [dueQ, hxr, ha]
         rw [h4] at h3
         exact h3
       · exact .inl (.inr hzv)
      · exact .inl (.inl hzr)
     · exact .inl (.inr ha)
    · exact .inl (.inl (.inr hyr))
   · exact .inl (.inl (.inl hxr))
  ·
   intro h y hy
   have hym := mem_putsF.1 hy
   unfold putInTime
   cases ht : takeOf (gotsF l) y.v with
   | none => rfl
   | some t =>
    have h2 := takeOf_mem ht
    have h3 := mem_gotsF.1 h2.1
    show allGotB l y t = true
    unfold allGotB
    rw [List.all_eq_true]
    intro x hx
    cases hd : dueQ y x
    · rfl
    ·
     simp only [dueQ, Bool.and_eq_true, beq_iff_eq, decide_eq_true_eq] at hd
     rcases h x hx y hym.1 with h4 | h4
     ·
      rcases h4 with (h4 | h4) | h4
      · exact absurd hd.1 h4
      · exact absurd hym.2 h4
      · exact absurd hd.2 h4
     ·
      rcases h4 t h3.1 with h5 | h5
      ·
       rcases h5 with h5 | h5
       · exact absurd h3.2 h5
       · exact absurd h2.2 h5
      · rw [h5]; rfl
 · rfl

theorem inothing2_any (l : List Ev) (A : Option Addr) (n cap : Nat) (w : World) (h : EvsR w A n l) (hn : n ≤ 1048576) :
  Calls Tryz.prog 6 #[.slice A n cap] w (RetBelow (.bool (nothingTwice l)) w) := by
 have h1 := inothing_any l A n cap w h hn
 rw [iNothing_eq] at h1
 exact h1
theorem iinOrder2_any (l : List Ev) (A : Option Addr) (n cap : Nat) (w : World) (h : EvsR w A n l) (hn : n ≤ 1048576) :
  Calls Tryz.prog 7 #[.slice A n cap] w (RetBelow (.bool (inOrder l)) w) := by
 have h1 := iinOrder_any l A n cap w h hn
 rw [iInOrder_eq] at h1
 exact h1
theorem iempty2_any (l : List Ev) (A : Option Addr) (n cap : Nat) (w : World) (h : EvsR w A n l) (hn : n ≤ 1048576) :
  Calls Tryz.prog 8 #[.slice A n cap] w (RetBelow (.bool (emptyHeld l)) w) := by
 have h1 := iempty_any l A n cap w h hn
 rw [iEmpty_eq] at h1
 exact h1

end Go.Proofs.YtiiaimjlohpemaaGreat

