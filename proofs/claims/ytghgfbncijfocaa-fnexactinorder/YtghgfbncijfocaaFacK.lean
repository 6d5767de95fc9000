/-
 What the program's facts ask of maps: isAnyTwice, takesByValue.
-/
import Derived.Test.YtghgfbncijfocaaFacJ
namespace Go.Proofs.Ytghgfbncijfocaa
set_option linter.unusedSimpArgs false
set_option linter.unusedVariables false
open Go.RowKit Go.Shelf Go.Maps
set_option linter.unusedVariables false
attribute [local go_sem] Oper.semAt_some
attribute [local go_sem ↓] Go.wp_at_zero Go.wp_at_succ

/-- The last of a list that has the value. -/
def takeOf (l : List Ev) (v : Int) : Option Ev := l.reverse.find? fun x => x.v == v
theorem takeOf_snoc (l : List Ev) (x : Ev) (v : Int) : takeOf (l ++ [x]) v = if v = x.v then some x else takeOf l v := by
 unfold takeOf
 rw [List.reverse_append, List.reverse_singleton, List.singleton_append, List.find?_cons]
 by_cases h : v = x.v
 · simp [h]
 · rw [if_neg h, show (x.v == v) = false by simp; exact fun e => h e.symm]
theorem takeOf_mem {l : List Ev} {v : Int} {x : Ev} (h : takeOf l v = some x) : x ∈ l ∧ x.v = v := by
 unfold takeOf at h
 have h1 := List.mem_of_find?_eq_some h
 have h2 := List.find?_some h
 exact ⟨by simpa using h1, by simpa using h2⟩
theorem takeOf_none {l : List Ev} {v : Int} (h : takeOf l v = none) : ∀ x ∈ l, x.v ≠ v := fun x hx e => by
 unfold takeOf at h
 have := (List.find?_eq_none.1 h) x (by simpa using hx)
 simp [e] at this

/-- A map from values to events is handed back. -/
def RetMap (l : List Ev) (w : World) (e : Ending) (w' : World) : Prop := ∃ M n f, e = .returned (.map (some M)) ∧ w.heap.size ≤ M ∧ MapIs w' M n f ∧ (∀ v, f v = (takeOf (gotsF l) v).map fun x => Value.agg (evC x)) ∧ Below w.heap.size w w'

set_option maxRecDepth 100000 in
set_option maxHeartbeats 4000000 in
theorem takes_any (l : List Ev) (A : Option Addr) (n cap : Nat) (w : World) (h : EvsR w A n l) (hn : n ≤ 1048576) (hv : ∀ x ∈ l, 0 ≤ x.v ∧ x.v ≤ 1000000) :
  Calls Try.prog 38 #[.slice A n cap] w (RetMap l w) := by
 refine (callsIn_wide (n := 3)).1 ?_
 refine callsIn_of_wp_marks Try.func38 rfl trivial ?_ rfl
 simp only [Try.ntmps38, List.size_toArray, List.length_cons, List.length_nil, Nat.reduceAdd, Nat.reduceSub, Array.replicate_succ, Array.replicate_zero, List.push_toArray, List.append_toArray, List.nil_append, List.cons_append]
 have hmm := @run_makeMap Try.prog
 gi_upto_region 2 with fail
 clear hmm
 have hB0 : Below w.heap.size w ((w.alloc (.map #[] 0)).alloc (.cells #[.map (some w.heap.size)] 47)) := ((Below.refl _ _).alloc (Nat.le_refl _) _).alloc (by simp) _
 have hm0 : MapIs ((w.alloc (.map #[] 0)).alloc (.cells #[.map (some w.heap.size)] 47)) w.heap.size 0 (fun _ => none) := (MapIs.made w).below ((Below.refl _ _).alloc (Nat.le_refl _) _)
 have hy0 : BoxAt ((w.alloc (.map #[] 0)).alloc (.cells #[.map (some w.heap.size)] 47)) (w.heap.size + 1) #[.map (some w.heap.size)] 47 := BoxAt.new' (by simp)
 have hs0 : ((w.alloc (.map #[] 0)).alloc (.cells #[.map (some w.heap.size)] 47)).heap.size = w.heap.size + 2 := by simp
 generalize ((w.alloc (.map #[] 0)).alloc (.cells #[.map (some w.heap.size)] 47)) = W at *
 obtain ⟨Y, hY⟩ : ∃ Y, w.heap.size + 1 = Y := ⟨_, rfl⟩
 rw [hY] at hy0 ⊢
 obtain ⟨M, hM⟩ : ∃ M, w.heap.size = M := ⟨_, rfl⟩
 rw [hM] at hm0 hy0 ⊢
 have hMw : w.heap.size ≤ M := by omega
 have hMY : M < Y := by omega
 have hYW : Y < W.heap.size := by omega
 clear hY hM hs0
 gi_wp2_with fail
 refine ⟨trivial, (callsIn_wide.2 (replied_any A n cap 4 W)).mono ?_⟩
 rintro e W5 ⟨rfl, hq5⟩
 have hb5 : Below W.heap.size W W5 := by rw [hq5]; exact ((Below.refl _ _).alloc (Nat.le_refl _) _).alloc (by simp) _
 have hPl : BoxAt W5 W.heap.size #[.slice A n cap] 25 := by rw [hq5]; exact (BoxAt.new _ _ _).alloc _
 have hPr : BoxAt W5 (W.heap.size + 1) #[.int .i64 4] 2 := by rw [hq5]; exact BoxAt.new' (by simp)
 have hs5 : W5.heap.size = W.heap.size + 2 := by rw [hq5]; simp
 clear hq5
 obtain ⟨P, hP⟩ : ∃ P, W.heap.size = P := ⟨_, rfl⟩
 replace hB0 := bstep hB0 hB0.size hb5
 replace hm0 := hm0.below hb5
 replace hy0 := hy0.below hb5 hy0.lt
 rw [hP] at hPl hPr hs5 hYW ⊢
 have hsP : P + 2 ≤ W5.heap.size := by omega
 clear hb5 hP hs5
 gi_wp2_with fail
 refine wpIn_rep w (P₀ := P) rfl h hn hB0 (by omega) hsP hPl hPr
  (fun ys Wy => BoxAt Wy Y #[.map (some M)] 47 ∧ ∃ f, MapIs Wy M ys.length f ∧ ∀ v, f v = (takeOf ys v).map fun x => Value.agg (evC x))
  (fun ys Wy => False)
  (OwnFrom.and box_own (mapE_own (by omega) (fun ys : List Ev => ys.length) (fun ys f => ∀ v, f v = (takeOf ys v).map fun x => Value.agg (evC x))))
  (fun _ _ _ _ h _ _ => h)
  ⟨hy0, _, hm0, fun v => rfl⟩ (fun x E => { tmps := #[.slice A n cap, undef, .map none, .pointer (some ⟨Y, 0, none⟩), .pointer (some ⟨E, 0, none⟩), .map (some M), .slice A n cap, .func (.func 36) #[] #[.pointer (some ⟨P, 0, none⟩), .pointer (some ⟨P + 1, 0, none⟩)], .agg #[.int .i64 x.who, .bool x.put, .int .i64 x.v, .int .i64 x.re, .int .i64 x.b, .int .i64 x.e], undef, undef, undef, undef, undef], defers := [] }) ?assign ?body ?done ?stop
 case assign =>
  intro lp x Wy K hK
  unfold evC at hK ⊢
  gi_wp2
  simpa using hK
 case body =>
  rintro lp ys x E Wy hE hxl hxr hB hsz hx ⟨hy, f, hm, hf⟩ hlen
  have kx := hx.cell
  have ky := hy.cell
  unfold evC at kx
  have hkw := key_wf (hv x hxl).1 (hv x hxl).2
  obtain ⟨W2, hup, hm2, hb2⟩ := hm.upd Try.underlying47 (by unfold maxLen; omega) hkw (.agg (evC x))
  have HF := Lib.hid (show ∀ v, (if v = x.v then some (Value.agg (evC x)) else f v) = (takeOf (ys ++ [x]) v).map fun x => Value.agg (evC x) from fun v => by
   rw [takeOf_snoc]
   by_cases e : v = x.v
   · rw [if_pos e, if_pos e]; rfl
   · rw [if_neg e, if_neg e]; exact hf v)
  have hyb := hb2.box hy (by omega)
  unfold evC at hup
  clear hm hf
  gi_wp2
  exact ⟨⟨M, by omega, by omega, hb2⟩, hyb, _, by simpa using hm2, HF.out⟩
 case stop =>
  rintro D ys Ws _ _ _ _ h _
  exact h.elim
 case done =>
  rintro D Wd hD hB hsz ⟨hy, f, hm, hf⟩ hdef
  have HDF := Lib.hid hdef
  have HM := Lib.hid hm
  have HF := Lib.hid hf
  have ky := hy.cell
  clear hdef hm hf
  gi_wp2
  refine leavesR (M := w.heap.size) (fun Wg => (∃ n f, MapIs Wg M n f ∧ ∀ v, f v = (takeOf (gotsF l) v).map fun x => Value.agg (evC x)) ∧ Below w.heap.size w Wg ∧ Y < Wg.heap.size) (fun Wg hG => ?_) (fun Wg D hD hG hs => ?_) [D] _ (by simp) (fun E hE => by obtain rfl : E = D := List.mem_singleton.1 hE; exact ⟨by omega, HDF.out⟩) ⟨⟨_, f, HM.out, HF.out⟩, hB, by omega⟩
  ·
   obtain ⟨⟨n', f', h1, h2⟩, h3, _⟩ := hG
   exact ⟨_, results_tmp rfl _ _ _, M, n', f', rfl, hMw, h1, h2, h3⟩
  ·
   obtain ⟨⟨n', f', h1, h2⟩, h3, h4⟩ := hG
   refine ⟨⟨n', f', h1.kept (grownBy_putObj' _ D (.deferred none)) (fun e => ?_), h2⟩, h3.trans (belowK_b (w := w) (Nat.le_refl _) _ D _ _ hD hs rfl rfl), by simpa using h4⟩
   injection e with e
   obtain ⟨D', ⟨es, clock, hb, _⟩, _⟩ := h1
   rw [e, hs] at hb
   cases hb
def anyV (l : List Ev) (v : Int) : Bool := l.any fun z => z.v == v
theorem anyV_snoc (l : List Ev) (x : Ev) (v : Int) : anyV (l ++ [x]) v = (anyV l v || decide (v = x.v)) := by
 unfold anyV
 rw [List.any_append]
 by_cases h : v = x.v
 · simp [h]
 ·
  rw [show decide (v = x.v) = false by simp [h]]
  simp only [List.any_cons, List.any_nil, Bool.or_false]
  simp only [show (x.v == v) = false by simp; exact fun e => h e.symm, Bool.or_false]
theorem nodup_snoc {l : List Ev} {x : Ev} : ((l ++ [x]).map Ev.v).Nodup ↔ (l.map Ev.v).Nodup ∧ anyV l x.v = false := by
 rw [List.map_append, List.map_singleton, List.nodup_append]
 unfold anyV
 rw [List.any_eq_false]
 constructor
 ·
  rintro ⟨h1, _, h3⟩
  exact ⟨h1, fun z hz e => h3 z.v (List.mem_map_of_mem hz) x.v (by simp) (by simpa using e)⟩
 ·
  rintro ⟨h1, h2⟩
  refine ⟨h1, by simp, fun a ha b hb e => ?_⟩
  obtain ⟨z, hz, rfl⟩ := List.mem_map.1 ha
  simp only [List.mem_singleton] at hb
  exact h2 z hz (by simp [e, hb])
theorem nodup_pre {p l : List Ev} (h : p <+: l) (hn : ¬ (p.map Ev.v).Nodup) : ¬ (l.map Ev.v).Nodup := fun hl => hn (by
 obtain ⟨t, rfl⟩ := h
 rw [List.map_append, List.nodup_append] at hl
 exact hl.1)
def anyTwice (l : List Ev) : Bool := !decide ((putsF l).map Ev.v).Nodup || !decide ((gotsF l).map Ev.v).Nodup
theorem zero_b (w : World) : (zeroValue 4).run Try.prog w = .ok (.bool false) w := by kernel_rfl
def roundR (i : Nat) : Int := if i = 0 then 1 else 4

set_option maxRecDepth 100000 in
set_option maxHeartbeats 4000000 in
theorem anyTwice_any (l : List Ev) (A : Option Addr) (n cap : Nat) (w : World) (h : EvsR w A n l) (hn : n ≤ 1048576) (hv : ∀ x ∈ l, 0 ≤ x.v ∧ x.v ≤ 1000000) :
  Calls Try.prog 29 #[.slice A n cap] w (RetBelow (.bool (anyTwice l)) w) := by
 refine (callsIn_wide (n := 3)).1 ?_
 refine callsIn_of_wp_marks Try.func29 rfl trivial ?_ rfl
 simp only [Try.ntmps29, List.size_toArray, List.length_cons, List.length_nil, Nat.reduceAdd, Nat.reduceSub, Array.replicate_succ, Array.replicate_zero, List.push_toArray, List.append_toArray, List.nil_append, List.cons_append]
 have hmm := @run_makeMap Try.prog
 gi_upto_region 2 with fail
 clear hmm
 have hB0 : Below w.heap.size w (((w.alloc (.cells #[.bool false] 4)).alloc (.map #[] 0)).alloc (.cells #[.map (some (w.heap.size + 1))] 45)) := (((Below.refl _ _).alloc (Nat.le_refl _) _).alloc (by simp) _).alloc (by simp; omega) _
 have hx0 : BoxAt (((w.alloc (.cells #[.bool false] 4)).alloc (.map #[] 0)).alloc (.cells #[.map (some (w.heap.size + 1))] 45)) w.heap.size #[.bool false] 4 := ((BoxAt.new _ _ _).alloc _).alloc _
 have hm0 : MapIs (((w.alloc (.cells #[.bool false] 4)).alloc (.map #[] 0)).alloc (.cells #[.map (some (w.heap.size + 1))] 45)) (w.heap.size + 1) 0 (fun _ => none) := by
  have := MapIs.made (w.alloc (.cells #[.bool false] 4))
  rw [World.size_alloc] at this
  exact this.below ((Below.refl _ _).alloc (Nat.le_refl _) _)
 have hy0 : BoxAt (((w.alloc (.cells #[.bool false] 4)).alloc (.map #[] 0)).alloc (.cells #[.map (some (w.heap.size + 1))] 45)) (w.heap.size + 1 + 1) #[.map (some (w.heap.size + 1))] 45 := BoxAt.new' (by simp)
 have hs0 : (((w.alloc (.cells #[.bool false] 4)).alloc (.map #[] 0)).alloc (.cells #[.map (some (w.heap.size + 1))] 45)).heap.size = w.heap.size + 3 := by simp
 generalize (((w.alloc (.cells #[.bool false] 4)).alloc (.map #[] 0)).alloc (.cells #[.map (some (w.heap.size + 1))] 45)) = W at *
 obtain ⟨Y, hY⟩ : ∃ Y, w.heap.size + 1 + 1 = Y := ⟨_, rfl⟩
 rw [hY] at hy0 ⊢
 obtain ⟨M, hM⟩ : ∃ M, w.heap.size + 1 = M := ⟨_, rfl⟩
 rw [hM] at hm0 hy0 ⊢
 obtain ⟨X, hX⟩ : ∃ X, w.heap.size = X := ⟨_, rfl⟩
 rw [hX] at hx0 ⊢
 have hXw : w.heap.size ≤ X := by omega
 have hXM : X < M := by omega
 have hMY : M < Y := by omega
 have hYW : Y < W.heap.size := by omega
 clear hX hY hM hs0
 gi_wp2_with fail
 refine wpIn_loop (fun a wr => ∃ (i : Nat) (Ds : List Nat) (s5 s6 s10 s11 s12 s13 s14 s15 s16 s17 s18 s19 s20 s21 s22 s23 s24 : Value), a = { tmps := #[.slice A n cap, undef, .pointer (some ⟨X, 0, none⟩), .pointer (some ⟨Y, 0, none⟩), undef, s5, s6, .map (some M), .agg #[.int .i64 1, .int .i64 4], .int .i64 (i : Int), s10, s11, s12, s13, s14, s15, s16, s17, s18, s19, s20, s21, s22, s23, s24], defers := Ds.map fun D => { target := .collected D, args := #[] } } ∧ i ≤ 2 ∧ Below w.heap.size w wr ∧ BoxAt wr X #[.bool false] 4 ∧ BoxAt wr Y #[.map (some M)] 45 ∧ (∃ k f, MapIs wr M k f) ∧ (1 ≤ i → ((putsF l).map Ev.v).Nodup) ∧ (2 ≤ i → ((gotsF l).map Ev.v).Nodup) ∧ Ds.Nodup ∧ ∀ D ∈ Ds, Y < D ∧ wr.heap[D]? = some (.deferred (some []))) (fun a _ => 2 - (intOf (a.tmps.getD 9 undef)).toNat) ?_ ?_
 · exact ⟨0, [], _, _, _, _, _, _, _, _, _, _, _, _, _, _, _, _, _, rfl, by omega, hB0, hx0, hy0, ⟨_, _, hm0⟩, fun h => absurd h (by omega), fun h => absurd h (by omega), List.nodup_nil, fun D h => by simp at h⟩
 clear hB0 hx0 hy0 hm0 hYW
 rintro a wr ⟨i, Ds, s5, s6, s10, s11, s12, s13, s14, s15, s16, s17, s18, s19, s20, s21, s22, s23, s24, rfl, hi, hB, hx, hy, ⟨k, f, hm⟩, hp1, hp2, hnd, hDs⟩
 have HND := Lib.hid hnd; clear hnd
 have HDS := Lib.hid hDs; clear hDs
 have HP1 := Lib.hid hp1; clear hp1
 have HP2 := Lib.hid hp2; clear hp2
 have hc : i = 0 ∨ i = 1 ∨ i = 2 := by omega
 rcases hc with rfl | rfl | rfl
 ·
  have hix : ∀ W, (Instr.index 46 (.agg #[.int .i64 1, .int .i64 4]) (.int .i64 (0 : Int))).run Try.prog W = .ok (.int .i64 1) W := fun W => by kernel_rfl
  have hix2 : ∀ W, (Instr.index 46 (.agg #[.int .i64 1, .int .i64 4]) (.int .i64 ((0 : Nat) : Int))).run Try.prog W = .ok (.int .i64 1) W := hix
  have kx := hx.cell
  have ky := hy.cell
  obtain ⟨Wc, hcl, hmc, hbc⟩ := hm.clear Try.underlying45
  have hyM := hbc.box hy (by omega)
  have hxM := hbc.box hx (by omega)
  have hBc : Below w.heap.size w Wc := hB.trans (hbc.below (by omega) hB.size)
  have HDC := Lib.hid (show ∀ D ∈ Ds, Y < D ∧ Wc.heap[D]? = some (.deferred (some [])) from fun D hD => ⟨(HDS.out D hD).1, (hbc.block D (lt_of_some (HDS.out D hD).2) (by have := (HDS.out D hD).1; omega)).trans (HDS.out D hD).2⟩)
  gi_wp2_with fail
  refine ⟨trivial, (callsIn_wide.2 (replied_any A n cap 1 Wc)).mono ?_⟩
  rintro e W5 ⟨rfl, hq5⟩
  have hb5 : Below Wc.heap.size Wc W5 := by rw [hq5]; exact ((Below.refl _ _).alloc (Nat.le_refl _) _).alloc (by simp) _
  have hPl : BoxAt W5 Wc.heap.size #[.slice A n cap] 25 := by rw [hq5]; exact (BoxAt.new _ _ _).alloc _
  have hPr : BoxAt W5 (Wc.heap.size + 1) #[.int .i64 1] 2 := by rw [hq5]; exact BoxAt.new' (by simp)
  have hs5 : W5.heap.size = Wc.heap.size + 2 := by rw [hq5]; simp
  clear hq5
  obtain ⟨P, hP⟩ : ∃ P, Wc.heap.size = P := ⟨_, rfl⟩
  have hB5 := bstep hBc hBc.size hb5
  have hm5 := hmc.below hb5
  have hy5 := hyM.below hb5 hyM.lt
  have hx5 := hxM.below hb5 hxM.lt
  have hYP : Y < Wc.heap.size := hyM.lt
  have HD5 := Lib.hid (show ∀ D ∈ Ds, Y < D ∧ D < W5.heap.size ∧ W5.heap[D]? = some (.deferred (some [])) from fun D hD => by
   have h1 := HDC.out D hD
   have h2 := lt_of_some h1.2
   exact ⟨h1.1, by have := hb5.size; omega, (hb5.block D h2).trans h1.2⟩)
  rw [hP] at hPl hPr hs5 hYP ⊢
  have hsP : P + 2 ≤ W5.heap.size := by omega
  clear hb5 hP hs5 hm hx hy kx ky hcl hmc hyM hxM hBc hbc HDC HDS hB
  gi_wp2_with fail
  refine wpIn_rep w (P₀ := P) rfl h hn hB5 (by omega) hsP hPl hPr
   (fun ys Wy => ((BoxAt Wy Y #[.map (some M)] 45 ∧ BoxAt Wy X #[.bool false] 4) ∧ ∀ D ∈ Ds, Wy.heap[D]? = some (.deferred (some []))) ∧ ∃ f, MapIs Wy M ys.length f ∧ (∀ v, (f v).getD (.bool false) = .bool (anyV ys v)) ∧ (ys.map Ev.v).Nodup)
   (fun ys Wy => (BoxAt Wy X #[.bool true] 4 ∧ ∀ D ∈ Ds, Wy.heap[D]? = some (.deferred (some []))) ∧ ¬ (ys.map Ev.v).Nodup)
   (OwnFrom.and (OwnFrom.and (OwnFrom.and box_own box_own) (marks_own (fun D hD => (HD5.out D hD).2.1))) (mapE_own (by omega) (fun ys : List Ev => ys.length) (fun ys f => (∀ v, (f v).getD (.bool false) = .bool (anyV ys v)) ∧ (ys.map Ev.v).Nodup)))
   (OwnFrom.and (OwnFrom.and box_own (marks_own (fun D hD => (HD5.out D hD).2.1))) (ownFrom_pure _ (fun ys : List Ev => ¬ (ys.map Ev.v).Nodup)))
   ⟨⟨⟨hy5, hx5⟩, fun D hD => (HD5.out D hD).2.2⟩, _, hm5, fun v => rfl, List.nodup_nil⟩ (fun x E => { tmps := #[.slice A n cap, undef, .pointer (some ⟨X, 0, none⟩), .pointer (some ⟨Y, 0, none⟩), undef, .int .i64 1, .pointer (some ⟨E, 0, none⟩), .map (some M), .agg #[.int .i64 1, .int .i64 4], .int .i64 0, .bool true, .int .i64 1, .map (some M), .slice A n cap, .int .i64 1, .func (.func 36) #[] #[.pointer (some ⟨P, 0, none⟩), .pointer (some ⟨P + 1, 0, none⟩)], .agg #[.int .i64 x.who, .bool x.put, .int .i64 x.v, .int .i64 x.re, .int .i64 x.b, .int .i64 x.e], s17, s18, s19, s20, s21, s22, s23, s24], defers := [] }) ?assign ?body ?done ?stop
  case assign =>
   intro lp x Wy K hK
   unfold evC at hK ⊢
   gi_wp2
   simpa using hK
  case body =>
   rintro lp ys x E Wy hE hxl hxr hB hsz hx ⟨⟨⟨hy, hr⟩, hmk⟩, f, hm, hf, hnd⟩ hlen
   have HMK := Lib.hid hmk; clear hmk
   have kx := hx.cell
   have ky := hy.cell
   have kr := hr.cell
   have fr := hr.frozen
   unfold evC at kx
   have hkw := key_wf (hv x hxl).1 (hv x hxl).2
   have hlk : (Instr.lookup 45 (.map (some M)) (.int .i64 x.v) false).run Try.prog Wy = .ok (.bool (anyV ys x.v)) Wy := by rw [hm.look Try.underlying45 (zero_b _) hkw, hf]
   obtain ⟨c_, hc⟩ : ∃ c_, anyV ys x.v = c_ := ⟨_, rfl⟩
   rw [hc] at hlk
   cases c_
   ·
    obtain ⟨W2, hup, hm2, hb2⟩ := hm.upd Try.underlying45 (by unfold maxLen; omega) hkw (.bool true)
    have HF := Lib.hid (show ∀ v, ((if v = x.v then some (.bool true) else f v : Option Value)).getD (.bool false) = .bool (anyV (ys ++ [x]) v) from fun v => by
     rw [anyV_snoc]
     by_cases e : v = x.v
     · rw [if_pos e, show decide (v = x.v) = true by simp [e], Bool.or_true]; rfl
     · rw [if_neg e, show decide (v = x.v) = false by simp [e], Bool.or_false]; exact hf v)
    have HN := Lib.hid (nodup_snoc.2 ⟨hnd, hc⟩)
    have hyb := hb2.box hy (by omega)
    have hrb := hb2.box hr (by omega)
    have HMB := Lib.hid (show ∀ D ∈ Ds, W2.heap[D]? = some (.deferred (some [])) from fun D hD => (hb2.block D (lt_of_some (HMK.out D hD)) (by have := (HD5.out D hD).1; omega)).trans (HMK.out D hD))
    clear hm hf hc hnd
    gi_wp2
    exact ⟨⟨M, by omega, by omega, hb2⟩, ⟨⟨hyb, hrb⟩, HMB.out⟩, _, by simpa using hm2, HF.out, HN.out⟩
   ·
    have HN := Lib.hid (show ¬ ((ys ++ [x]).map Ev.v).Nodup from fun h1 => by have := (nodup_snoc.1 h1).2; rw [hc] at this; cases this)
    clear hm hf hc hnd
    gi_wp2
    exact ⟨⟨X, by omega, by omega, (But.refl _ _).set 0 _⟩, ⟨hr.set 0 _, fun D hD => (KeepsOthers.setCell Wy ⟨X, 0, none⟩ (.bool true)).same D _ (HMK.out D hD) rfl⟩, HN.out⟩
  case done =>
   rintro D Wd hD hB hsz ⟨⟨⟨hy, hr⟩, hmk⟩, f, hm, hf, hnd⟩ hdef
   have HDF := Lib.hid hdef
   have HMK := Lib.hid hmk
   have HN := Lib.hid hnd
   have HM := Lib.hid hm
   clear hdef hmk hnd hm hf
   gi_wp2
   refine ⟨⟨1, D :: Ds, _, _, _, _, _, _, _, _, _, _, _, _, _, _, _, _, _, rfl, by omega, hB, hr, hy, ⟨_, _, HM.out⟩, (fun _ => HN.out), (fun h => absurd h (by omega)), List.nodup_cons.2 ⟨fun h => absurd (HD5.out D h).2.1 (by omega), HND.out⟩, fun E hE => ?_⟩, ?_⟩
   ·
    rcases List.mem_cons.1 hE with rfl | hE
    · exact ⟨by omega, HDF.out⟩
    · exact ⟨(HD5.out E hE).1, HMK.out E hE⟩
   · simp [intOf]
  case stop =>
   rintro D ys Ws hD hB hsz hpre ⟨⟨hr, hmk⟩, hnn⟩ hdef
   have HR := Lib.hid (show anyTwice l = true by
    have h1 := nodup_pre hpre hnn
    unfold anyTwice
    rw [show decide ((putsF l).map Ev.v).Nodup = false from decide_eq_false h1]; rfl)
   have HNX := Lib.hid (show (D :: Ds).Nodup from List.nodup_cons.2 ⟨fun h => absurd (HD5.out D h).2.1 (by omega), HND.out⟩)
   have HDX := Lib.hid (show ∀ E ∈ D :: Ds, w.heap.size ≤ E ∧ Ws.heap[E]? = some (.deferred (some [])) from fun E hE => by
    rcases List.mem_cons.1 hE with rfl | hE
    · exact ⟨by omega, hdef⟩
    · exact ⟨by have := (HD5.out E hE).1; omega, hmk E hE⟩)
   clear hdef hmk hnn hpre
   gi_wp2
   refine leavesR (M := w.heap.size) (fun Wg => BoxAt Wg X #[.bool true] 4 ∧ Below w.heap.size w Wg) (fun Wg hG => ?_) (fun Wg D hD hG hs => ⟨box_own (β := Unit) (C := 0) () _ _ (some D) hG.1 (grownBy_putObj' _ D (.deferred none)) (fun r e => by cases e; exact ⟨Nat.zero_le _, _, hs, rfl⟩), hG.2.trans (belowK_b (w := w) (Nat.le_refl _) _ D _ _ hD hs rfl rfl)⟩) (D :: Ds) _ HNX.out HDX.out ⟨hr, hB⟩
   have kg := hG.1.cell
   exact ⟨.bool true, by simp [results, Try.results29, go_sem, kg], .mk (congrArg Value.bool HR.out.symm) hG.2⟩
 ·
  have hix : ∀ W, (Instr.index 46 (.agg #[.int .i64 1, .int .i64 4]) (.int .i64 (1 : Int))).run Try.prog W = .ok (.int .i64 4) W := fun W => by kernel_rfl
  have hix2 : ∀ W, (Instr.index 46 (.agg #[.int .i64 1, .int .i64 4]) (.int .i64 ((1 : Nat) : Int))).run Try.prog W = .ok (.int .i64 4) W := hix
  have kx := hx.cell
  have ky := hy.cell
  obtain ⟨Wc, hcl, hmc, hbc⟩ := hm.clear Try.underlying45
  have hyM := hbc.box hy (by omega)
  have hxM := hbc.box hx (by omega)
  have hBc : Below w.heap.size w Wc := hB.trans (hbc.below (by omega) hB.size)
  have HDC := Lib.hid (show ∀ D ∈ Ds, Y < D ∧ Wc.heap[D]? = some (.deferred (some [])) from fun D hD => ⟨(HDS.out D hD).1, (hbc.block D (lt_of_some (HDS.out D hD).2) (by have := (HDS.out D hD).1; omega)).trans (HDS.out D hD).2⟩)
  gi_wp2_with fail
  refine ⟨trivial, (callsIn_wide.2 (replied_any A n cap 4 Wc)).mono ?_⟩
  rintro e W5 ⟨rfl, hq5⟩
  have hb5 : Below Wc.heap.size Wc W5 := by rw [hq5]; exact ((Below.refl _ _).alloc (Nat.le_refl _) _).alloc (by simp) _
  have hPl : BoxAt W5 Wc.heap.size #[.slice A n cap] 25 := by rw [hq5]; exact (BoxAt.new _ _ _).alloc _
  have hPr : BoxAt W5 (Wc.heap.size + 1) #[.int .i64 4] 2 := by rw [hq5]; exact BoxAt.new' (by simp)
  have hs5 : W5.heap.size = Wc.heap.size + 2 := by rw [hq5]; simp
  clear hq5
  obtain ⟨P, hP⟩ : ∃ P, Wc.heap.size = P := ⟨_, rfl⟩
  have hB5 := bstep hBc hBc.size hb5
  have hm5 := hmc.below hb5
  have hy5 := hyM.below hb5 hyM.lt
  have hx5 := hxM.below hb5 hxM.lt
  have hYP : Y < Wc.heap.size := hyM.lt
  have HD5 := Lib.hid (show ∀ D ∈ Ds, Y < D ∧ D < W5.heap.size ∧ W5.heap[D]? = some (.deferred (some [])) from fun D hD => by
   have h1 := HDC.out D hD
   have h2 := lt_of_some h1.2
   exact ⟨h1.1, by have := hb5.size; omega, (hb5.block D h2).trans h1.2⟩)
  rw [hP] at hPl hPr hs5 hYP ⊢
  have hsP : P + 2 ≤ W5.heap.size := by omega
  clear hb5 hP hs5 hm hx hy kx ky hcl hmc hyM hxM hBc hbc HDC HDS hB
  gi_wp2_with fail
  refine wpIn_rep w (P₀ := P) rfl h hn hB5 (by omega) hsP hPl hPr
   (fun ys Wy => ((BoxAt Wy Y #[.map (some M)] 45 ∧ BoxAt Wy X #[.bool false] 4) ∧ ∀ D ∈ Ds, Wy.heap[D]? = some (.deferred (some []))) ∧ ∃ f, MapIs Wy M ys.length f ∧ (∀ v, (f v).getD (.bool false) = .bool (anyV ys v)) ∧ (ys.map Ev.v).Nodup)
   (fun ys Wy => (BoxAt Wy X #[.bool true] 4 ∧ ∀ D ∈ Ds, Wy.heap[D]? = some (.deferred (some []))) ∧ ¬ (ys.map Ev.v).Nodup)
   (OwnFrom.and (OwnFrom.and (OwnFrom.and box_own box_own) (marks_own (fun D hD => (HD5.out D hD).2.1))) (mapE_own (by omega) (fun ys : List Ev => ys.length) (fun ys f => (∀ v, (f v).getD (.bool false) = .bool (anyV ys v)) ∧ (ys.map Ev.v).Nodup)))
   (OwnFrom.and (OwnFrom.and box_own (marks_own (fun D hD => (HD5.out D hD).2.1))) (ownFrom_pure _ (fun ys : List Ev => ¬ (ys.map Ev.v).Nodup)))
   ⟨⟨⟨hy5, hx5⟩, fun D hD => (HD5.out D hD).2.2⟩, _, hm5, fun v => rfl, List.nodup_nil⟩ (fun x E => { tmps := #[.slice A n cap, undef, .pointer (some ⟨X, 0, none⟩), .pointer (some ⟨Y, 0, none⟩), undef, .int .i64 4, .pointer (some ⟨E, 0, none⟩), .map (some M), .agg #[.int .i64 1, .int .i64 4], .int .i64 1, .bool true, .int .i64 4, .map (some M), .slice A n cap, .int .i64 4, .func (.func 36) #[] #[.pointer (some ⟨P, 0, none⟩), .pointer (some ⟨P + 1, 0, none⟩)], .agg #[.int .i64 x.who, .bool x.put, .int .i64 x.v, .int .i64 x.re, .int .i64 x.b, .int .i64 x.e], s17, s18, s19, s20, s21, s22, s23, s24], defers := [] }) ?assign ?body ?done ?stop
  case assign =>
   intro lp x Wy K hK
   unfold evC at hK ⊢
   gi_wp2
   simpa using hK
  case body =>
   rintro lp ys x E Wy hE hxl hxr hB hsz hx ⟨⟨⟨hy, hr⟩, hmk⟩, f, hm, hf, hnd⟩ hlen
   have HMK := Lib.hid hmk; clear hmk
   have kx := hx.cell
   have ky := hy.cell
   have kr := hr.cell
   have fr := hr.frozen
   unfold evC at kx
   have hkw := key_wf (hv x hxl).1 (hv x hxl).2
   have hlk : (Instr.lookup 45 (.map (some M)) (.int .i64 x.v) false).run Try.prog Wy = .ok (.bool (anyV ys x.v)) Wy := by rw [hm.look Try.underlying45 (zero_b _) hkw, hf]
   obtain ⟨c_, hc⟩ : ∃ c_, anyV ys x.v = c_ := ⟨_, rfl⟩
   rw [hc] at hlk
   cases c_
   ·
    obtain ⟨W2, hup, hm2, hb2⟩ := hm.upd Try.underlying45 (by unfold maxLen; omega) hkw (.bool true)
    have HF := Lib.hid (show ∀ v, ((if v = x.v then some (.bool true) else f v : Option Value)).getD (.bool false) = .bool (anyV (ys ++ [x]) v) from fun v => by
     rw [anyV_snoc]
     by_cases e : v = x.v
     · rw [if_pos e, show decide (v = x.v) = true by simp [e], Bool.or_true]; rfl
     · rw [if_neg e, show decide (v = x.v) = false by simp [e], Bool.or_false]; exact hf v)
    have HN := Lib.hid (nodup_snoc.2 ⟨hnd, hc⟩)
    have hyb := hb2.box hy (by omega)
    have hrb := hb2.box hr (by omega)
    have HMB := Lib.hid (show ∀ D ∈ Ds, W2.heap[D]? = some (.deferred (some [])) from fun D hD => (hb2.block D (lt_of_some (HMK.out D hD)) (by have := (HD5.out D hD).1; omega)).trans (HMK.out D hD))
    clear hm hf hc hnd
    gi_wp2
    exact ⟨⟨M, by omega, by omega, hb2⟩, ⟨⟨hyb, hrb⟩, HMB.out⟩, _, by simpa using hm2, HF.out, HN.out⟩
   ·
    have HN := Lib.hid (show ¬ ((ys ++ [x]).map Ev.v).Nodup from fun h1 => by have := (nodup_snoc.1 h1).2; rw [hc] at this; cases this)
    clear hm hf hc hnd
    gi_wp2
    exact ⟨⟨X, by omega, by omega, (But.refl _ _).set 0 _⟩, ⟨hr.set 0 _, fun D hD => (KeepsOthers.setCell Wy ⟨X, 0, none⟩ (.bool true)).same D _ (HMK.out D hD) rfl⟩, HN.out⟩
  case done =>
   rintro D Wd hD hB hsz ⟨⟨⟨hy, hr⟩, hmk⟩, f, hm, hf, hnd⟩ hdef
   have HDF := Lib.hid hdef
   have HMK := Lib.hid hmk
   have HN := Lib.hid hnd
   have HM := Lib.hid hm
   clear hdef hmk hnd hm hf
   gi_wp2
   refine ⟨⟨2, D :: Ds, _, _, _, _, _, _, _, _, _, _, _, _, _, _, _, _, _, rfl, by omega, hB, hr, hy, ⟨_, _, HM.out⟩, (fun _ => HP1.out (by omega)), (fun _ => HN.out), List.nodup_cons.2 ⟨fun h => absurd (HD5.out D h).2.1 (by omega), HND.out⟩, fun E hE => ?_⟩, ?_⟩
   ·
    rcases List.mem_cons.1 hE with rfl | hE
    · exact ⟨by omega, HDF.out⟩
    · exact ⟨(HD5.out E hE).1, HMK.out E hE⟩
   · simp [intOf]
  case stop =>
   rintro D ys Ws hD hB hsz hpre ⟨⟨hr, hmk⟩, hnn⟩ hdef
   have HR := Lib.hid (show anyTwice l = true by
    have h1 := nodup_pre hpre hnn
    unfold anyTwice
    rw [show decide ((gotsF l).map Ev.v).Nodup = false from decide_eq_false h1, Bool.not_false, Bool.or_true])
   have HNX := Lib.hid (show (D :: Ds).Nodup from List.nodup_cons.2 ⟨fun h => absurd (HD5.out D h).2.1 (by omega), HND.out⟩)
   have HDX := Lib.hid (show ∀ E ∈ D :: Ds, w.heap.size ≤ E ∧ Ws.heap[E]? = some (.deferred (some [])) from fun E hE => by
    rcases List.mem_cons.1 hE with rfl | hE
    · exact ⟨by omega, hdef⟩
    · exact ⟨by have := (HD5.out E hE).1; omega, hmk E hE⟩)
   clear hdef hmk hnn hpre
   gi_wp2
   refine leavesR (M := w.heap.size) (fun Wg => BoxAt Wg X #[.bool true] 4 ∧ Below w.heap.size w Wg) (fun Wg hG => ?_) (fun Wg D hD hG hs => ⟨box_own (β := Unit) (C := 0) () _ _ (some D) hG.1 (grownBy_putObj' _ D (.deferred none)) (fun r e => by cases e; exact ⟨Nat.zero_le _, _, hs, rfl⟩), hG.2.trans (belowK_b (w := w) (Nat.le_refl _) _ D _ _ hD hs rfl rfl)⟩) (D :: Ds) _ HNX.out HDX.out ⟨hr, hB⟩
   have kg := hG.1.cell
   exact ⟨.bool true, by simp [results, Try.results29, go_sem, kg], .mk (congrArg Value.bool HR.out.symm) hG.2⟩
 ·
  have HR := Lib.hid (show anyTwice l = false by unfold anyTwice; rw [decide_eq_true (HP1.out (by omega)), decide_eq_true (HP2.out (by omega))]; rfl)
  have kr := hx.cell
  have fr := hx.frozen
  clear hm
  gi_wp2
  have HDX := Lib.hid (show ∀ D ∈ Ds, w.heap.size ≤ D ∧ (wr.setCell ⟨X, 0, none⟩ (.bool false)).heap[D]? = some (.deferred (some [])) from fun D hD => ⟨by have := (HDS.out D hD).1; omega, (KeepsOthers.setCell wr ⟨X, 0, none⟩ (.bool false)).same D _ (HDS.out D hD).2 rfl⟩)
  refine leavesR (M := w.heap.size) (fun Wg => BoxAt Wg X #[.bool false] 4 ∧ Below w.heap.size w Wg) (fun Wg hG => ?_) (fun Wg D hD hG hs => ⟨box_own (β := Unit) (C := 0) () _ _ (some D) hG.1 (grownBy_putObj' _ D (.deferred none)) (fun r e => by cases e; exact ⟨Nat.zero_le _, _, hs, rfl⟩), hG.2.trans (belowK_b (w := w) (Nat.le_refl _) _ D _ _ hD hs rfl rfl)⟩) Ds _ HND.out HDX.out ⟨hx.set 0 _, hB.setCell (p := ⟨X, 0, none⟩) (by simp; omega) _⟩
  have kg := hG.1.cell
  exact ⟨.bool false, by simp [results, Try.results29, go_sem, kg], .mk (congrArg Value.bool HR.out.symm) hG.2⟩
end Go.Proofs.Ytghgfbncijfocaa
