/-
 The program's facts of a story: InOrder, EmptyHeld.
-/
import Derived.Test.YtghgfbncijfocaaFacL
namespace Go.Proofs.Ytghgfbncijfocaa
set_option linter.unusedSimpArgs false
set_option linter.unusedVariables false
open Go.RowKit Go.Shelf Go.Maps
set_option linter.unusedVariables false
attribute [local go_sem] Oper.semAt_some
attribute [local go_sem ↓] Go.wp_at_zero Go.wp_at_succ

def emptyR (l : List Ev) : Bool := (l.filter fun z => z.re == 3).all fun x => allGotB l x x

set_option maxRecDepth 100000 in
set_option maxHeartbeats 4000000 in
theorem emptyR_any (l : List Ev) (A : Option Addr) (n cap : Nat) (w : World) (h : EvsR w A n l) (hn : n ≤ 16) (hv : ∀ x ∈ l, 0 ≤ x.v ∧ x.v ≤ 1000000) :
  Calls Try.prog 31 #[.slice A n cap] w (RetBelow (.bool (emptyR l)) w) := by
 refine (callsIn_wide (n := 3)).1 ?_
 refine callsIn_of_wp_marks Try.func31 rfl trivial ?_ rfl
 simp only [Try.ntmps31, List.size_toArray, List.length_cons, List.length_nil, Nat.reduceAdd, Nat.reduceSub, Array.replicate_succ, Array.replicate_zero, List.push_toArray, List.append_toArray, List.nil_append, List.cons_append]
 gi_upto_region 1 with fail
 have hB0 : Below w.heap.size w ((w.alloc (.cells #[.slice A n cap] 25)).alloc (.cells #[.bool false] 4)) := ((Below.refl _ _).alloc (Nat.le_refl _) _).alloc (by simp) _
 have hy0 : BoxAt ((w.alloc (.cells #[.slice A n cap] 25)).alloc (.cells #[.bool false] 4)) w.heap.size #[.slice A n cap] 25 := (BoxAt.new _ _ _).alloc _
 have hx0 : BoxAt ((w.alloc (.cells #[.slice A n cap] 25)).alloc (.cells #[.bool false] 4)) (w.heap.size + 1) #[.bool false] 4 := BoxAt.new' (by simp)
 have hs0 : ((w.alloc (.cells #[.slice A n cap] 25)).alloc (.cells #[.bool false] 4)).heap.size = w.heap.size + 2 := by simp
 generalize (w.alloc (.cells #[.slice A n cap] 25)).alloc (.cells #[.bool false] 4) = W at *
 obtain ⟨X, hX⟩ : ∃ X, w.heap.size + 1 = X := ⟨_, rfl⟩
 obtain ⟨Y, hY⟩ : ∃ Y, w.heap.size = Y := ⟨_, rfl⟩
 rw [hX] at hx0 ⊢
 rw [hY] at hy0 ⊢
 have hYw : w.heap.size ≤ Y := by omega
 have hXY : Y < X := by omega
 have hXW : X < W.heap.size := by omega
 clear hX hY hs0
 have ky := hy0.cell
 gi_wp2_with fail
 refine ⟨trivial, (callsIn_wide.2 (replied_any A n cap 3 W)).mono ?_⟩
 rintro e W5 ⟨rfl, hq5⟩
 have hb5 : Below W.heap.size W W5 := by rw [hq5]; exact ((Below.refl _ _).alloc (Nat.le_refl _) _).alloc (by simp) _
 have hPl : BoxAt W5 W.heap.size #[.slice A n cap] 25 := by rw [hq5]; exact (BoxAt.new _ _ _).alloc _
 have hPr : BoxAt W5 (W.heap.size + 1) #[.int .i64 3] 2 := by rw [hq5]; exact BoxAt.new' (by simp)
 have hs5 : W5.heap.size = W.heap.size + 2 := by rw [hq5]; simp
 clear hq5
 obtain ⟨P, hP⟩ : ∃ P, W.heap.size = P := ⟨_, rfl⟩
 replace hB0 := bstep hB0 hB0.size hb5
 replace hy0 := hy0.below hb5 hy0.lt
 replace hx0 := hx0.below hb5 hx0.lt
 rw [hP] at hPl hPr hs5 hXW ⊢
 have hsP : P + 2 ≤ W5.heap.size := by omega
 clear hb5 hP hs5 ky
 gi_wp2_with fail
 refine wpIn_rep w (P₀ := P) rfl h (by omega) hB0 (by omega) hsP hPl hPr
  (fun ys Wy => (BoxAt Wy Y #[.slice A n cap] 25 ∧ BoxAt Wy X #[.bool false] 4) ∧ ys.all (fun x => allGotB l x x) = true)
  (fun ys Wy => BoxAt Wy X #[.bool false] 4 ∧ ys.all (fun x => allGotB l x x) = false)
  (OwnFrom.and (OwnFrom.and box_own box_own) (ownFrom_pure _ (fun ys : List Ev => ys.all (fun x => allGotB l x x) = true)))
  (OwnFrom.and box_own (ownFrom_pure _ (fun ys : List Ev => ys.all (fun x => allGotB l x x) = false)))
  ⟨⟨hy0, hx0⟩, rfl⟩ (fun x E => { tmps := #[.slice A n cap, .pointer (some ⟨Y, 0, none⟩), .pointer (some ⟨X, 0, none⟩), .pointer (some ⟨E, 0, none⟩), .slice A n cap, .func (.func 36) #[] #[.pointer (some ⟨P, 0, none⟩), .pointer (some ⟨P + 1, 0, none⟩)], .agg #[.int .i64 x.who, .bool x.put, .int .i64 x.v, .int .i64 x.re, .int .i64 x.b, .int .i64 x.e], undef, undef, undef, undef, undef], defers := [] }) ?assign ?body ?done ?stop
 case assign =>
  intro lp x Wy K hK
  unfold evC at hK ⊢
  gi_wp2
  simpa using hK
 case body =>
  rintro lp ys x E Wy hE hxl hxr hB hsz hx ⟨⟨hy, hr⟩, hal⟩ hlen
  have kx := hx.cell
  have ky := hy.cell
  unfold evC at kx
  gi_wp2_with fail
  refine ⟨trivial, (callsIn_wide.2 (allGot_any l x x A n cap Wy (h.below hB) hn hv)).mono ?_⟩
  rintro e W3 ⟨rfl, hb3⟩
  have hr3 := hr.below hb3 hr.lt
  have hy3 := hy.below hb3 hy.lt
  have kr := hr3.cell
  have fr := hr3.frozen
  clear kx ky
  cases hp : allGotB l x x
  ·
   have HA := Lib.hid (show (ys ++ [x]).all (fun x => allGotB l x x) = false by rw [List.all_append, hal]; simp [hp])
   clear hal hp
   gi_wp2
   exact ⟨⟨X, by omega, by omega, (But.of_below hb3).set 0 _⟩, hr3.set 0 _, HA.out⟩
  ·
   have HA := Lib.hid (show (ys ++ [x]).all (fun x => allGotB l x x) = true by rw [List.all_append, hal]; simp [hp])
   clear hal hp
   gi_wp2
   exact ⟨⟨X, by omega, by omega, .of_below hb3⟩, ⟨hy3, hr3⟩, HA.out⟩
 case done =>
  rintro D Wd hD hB hsz ⟨⟨hy, hr⟩, hal⟩ hdef
  have HDF := Lib.hid hdef
  have HR := Lib.hid (show emptyR l = true from hal)
  have kr := hr.cell
  have fr := hr.frozen
  clear hdef hal
  gi_wp2
  have hd2 := (KeepsOthers.setCell Wd ⟨X, 0, none⟩ (.bool true)).same D _ HDF.out rfl
  refine leavesR (M := w.heap.size) (fun Wg => BoxAt Wg X #[.bool true] 4 ∧ Below w.heap.size w Wg) (fun Wg hG => ?_) (fun Wg D hD hG hs => ⟨box_own (β := Unit) (C := 0) () _ _ (some D) hG.1 (grownBy_putObj' _ D (.deferred none)) (fun r e => by cases e; exact ⟨Nat.zero_le _, _, hs, rfl⟩), hG.2.trans (belowK_b (w := w) (Nat.le_refl _) _ D _ _ hD hs rfl rfl)⟩) [D] _ (by simp) (fun E hE => by obtain rfl : E = D := List.mem_singleton.1 hE; exact ⟨by omega, hd2⟩) ⟨hr.set 0 _, hB.setCell (p := ⟨X, 0, none⟩) (by simp; omega) _⟩
  have kg := hG.1.cell
  exact ⟨.bool true, by simp [results, Try.results31, go_sem, kg], .mk (congrArg Value.bool HR.out.symm) hG.2⟩
 case stop =>
  rintro D ys Ws hD hB hsz hpre ⟨hr, hal⟩ hdef
  have HR := Lib.hid (show emptyR l = false by
   obtain ⟨s, hs⟩ := hpre
   unfold emptyR
   rw [← hs, List.all_append, hal]; rfl)
  clear hal
  gi_wp2
  refine leavesR (M := w.heap.size) (fun Wg => BoxAt Wg X #[.bool false] 4 ∧ Below w.heap.size w Wg) (fun Wg hG => ?_) (fun Wg D hD hG hs => ⟨box_own (β := Unit) (C := 0) () _ _ (some D) hG.1 (grownBy_putObj' _ D (.deferred none)) (fun r e => by cases e; exact ⟨Nat.zero_le _, _, hs, rfl⟩), hG.2.trans (belowK_b (w := w) (Nat.le_refl _) _ D _ _ hD hs rfl rfl)⟩) [D] _ (by simp) (fun E hE => by obtain rfl : E = D := List.mem_singleton.1 hE; exact ⟨by omega, hdef⟩) ⟨hr, hB⟩
  have kg := hG.1.cell
  exact ⟨.bool false, by simp [results, Try.results31, go_sem, kg], .mk (congrArg Value.bool HR.out.symm) hG.2⟩

def putInTime (l : List Ev) (p : Ev) : Bool := match takeOf (gotsF l) p.v with
 | some t => allGotB l p t
 | none => true
def gotOrd (l : List Ev) : Bool := (putsF l).all (putInTime l)

set_option maxRecDepth 100000 in
set_option maxHeartbeats 4000000 in
theorem gotOrd_any (l : List Ev) (A : Option Addr) (n cap : Nat) (w : World) (h : EvsR w A n l) (hn : n ≤ 16) (hv : ∀ x ∈ l, 0 ≤ x.v ∧ x.v ≤ 1000000) :
  Calls Try.prog 30 #[.slice A n cap] w (RetBelow (.bool (gotOrd l)) w) := by
 refine (callsIn_wide (n := 3)).1 ?_
 refine callsIn_of_wp_marks Try.func30 rfl trivial ?_ rfl
 simp only [Try.ntmps30, List.size_toArray, List.length_cons, List.length_nil, Nat.reduceAdd, Nat.reduceSub, Array.replicate_succ, Array.replicate_zero, List.push_toArray, List.append_toArray, List.nil_append, List.cons_append]
 gi_upto_region 1 with fail
 have hB0 : Below w.heap.size w ((w.alloc (.cells #[.slice A n cap] 25)).alloc (.cells #[.bool false] 4)) := ((Below.refl _ _).alloc (Nat.le_refl _) _).alloc (by simp) _
 have hy0 : BoxAt ((w.alloc (.cells #[.slice A n cap] 25)).alloc (.cells #[.bool false] 4)) w.heap.size #[.slice A n cap] 25 := (BoxAt.new _ _ _).alloc _
 have hx0 : BoxAt ((w.alloc (.cells #[.slice A n cap] 25)).alloc (.cells #[.bool false] 4)) (w.heap.size + 1) #[.bool false] 4 := BoxAt.new' (by simp)
 have hs0 : ((w.alloc (.cells #[.slice A n cap] 25)).alloc (.cells #[.bool false] 4)).heap.size = w.heap.size + 2 := by simp
 generalize (w.alloc (.cells #[.slice A n cap] 25)).alloc (.cells #[.bool false] 4) = W at *
 obtain ⟨X, hX⟩ : ∃ X, w.heap.size + 1 = X := ⟨_, rfl⟩
 obtain ⟨Y, hY⟩ : ∃ Y, w.heap.size = Y := ⟨_, rfl⟩
 rw [hX] at hx0 ⊢
 rw [hY] at hy0 ⊢
 have hYw : w.heap.size ≤ Y := by omega
 have hXY : Y < X := by omega
 have hXW : X < W.heap.size := by omega
 clear hX hY hs0
 have ky := hy0.cell
 gi_wp2_with fail
 refine ⟨trivial, (callsIn_wide.2 (takes_any l A n cap W (h.below hB0) (by omega) hv)).mono ?_⟩
 rintro e W1 ⟨M, k, f, rfl, hM, hm0, hf, hb1⟩
 have HF := Lib.hid hf
 have hXM : X < M := Nat.lt_of_lt_of_le hx0.lt hM
 replace hB0 := bstep hB0 hB0.size hb1
 replace hy0 := hy0.below hb1 hy0.lt
 replace hx0 := hx0.below hb1 hx0.lt
 clear hb1 hf hM ky hXW
 gi_upto_region 2 with fail
 have hba : Below W1.heap.size W1 (W1.alloc (.cells #[.map (some M)] 47)) := (Below.refl _ _).alloc (Nat.le_refl _) _
 have hz0 : BoxAt (W1.alloc (.cells #[.map (some M)] 47)) W1.heap.size #[.map (some M)] 47 := BoxAt.new _ _ _
 have hMZ := hm0.lt
 replace hB0 := bstep hB0 hB0.size hba
 replace hy0 := hy0.below hba hy0.lt
 replace hx0 := hx0.below hba hx0.lt
 replace hm0 := hm0.below hba
 have hZW : W1.heap.size < (W1.alloc (.cells #[.map (some M)] 47)).heap.size := by simp
 generalize W1.alloc (.cells #[.map (some M)] 47) = W2 at *
 obtain ⟨Z, hZ⟩ : ∃ Z, W1.heap.size = Z := ⟨_, rfl⟩
 rw [hZ] at hz0 hMZ hZW ⊢
 clear hZ hba
 have ky := hy0.cell
 gi_wp2_with fail
 refine ⟨trivial, (callsIn_wide.2 (replied_any A n cap 1 W2)).mono ?_⟩
 rintro e W5 ⟨rfl, hq5⟩
 have hb5 : Below W2.heap.size W2 W5 := by rw [hq5]; exact ((Below.refl _ _).alloc (Nat.le_refl _) _).alloc (by simp) _
 have hPl : BoxAt W5 W2.heap.size #[.slice A n cap] 25 := by rw [hq5]; exact (BoxAt.new _ _ _).alloc _
 have hPr : BoxAt W5 (W2.heap.size + 1) #[.int .i64 1] 2 := by rw [hq5]; exact BoxAt.new' (by simp)
 have hs5 : W5.heap.size = W2.heap.size + 2 := by rw [hq5]; simp
 clear hq5
 obtain ⟨P, hP⟩ : ∃ P, W2.heap.size = P := ⟨_, rfl⟩
 replace hB0 := bstep hB0 hB0.size hb5
 replace hy0 := hy0.below hb5 hy0.lt
 replace hx0 := hx0.below hb5 hx0.lt
 replace hz0 := hz0.below hb5 hz0.lt
 replace hm0 := hm0.below hb5
 rw [hP] at hPl hPr hs5 hZW ⊢
 have hsP : P + 2 ≤ W5.heap.size := by omega
 clear hb5 hP hs5 ky
 gi_wp2_with fail
 refine wpIn_rep w (P₀ := P) rfl h (by omega) hB0 (by omega) hsP hPl hPr
  (fun ys Wy => ((BoxAt Wy Y #[.slice A n cap] 25 ∧ BoxAt Wy X #[.bool false] 4) ∧ BoxAt Wy Z #[.map (some M)] 47 ∧ MapIs Wy M k f) ∧ ys.all (putInTime l) = true)
  (fun ys Wy => BoxAt Wy X #[.bool false] 4 ∧ ys.all (putInTime l) = false)
  (OwnFrom.and (OwnFrom.and (OwnFrom.and box_own box_own) (OwnFrom.and box_own (mapIs_own (by omega)))) (ownFrom_pure _ (fun ys : List Ev => ys.all (putInTime l) = true)))
  (OwnFrom.and box_own (ownFrom_pure _ (fun ys : List Ev => ys.all (putInTime l) = false)))
  ⟨⟨⟨hy0, hx0⟩, hz0, hm0⟩, rfl⟩ (fun x E => { tmps := #[.slice A n cap, .pointer (some ⟨Y, 0, none⟩), .pointer (some ⟨X, 0, none⟩), .pointer (some ⟨Z, 0, none⟩), .pointer (some ⟨E, 0, none⟩), undef, undef, .slice A n cap, .map (some M), .slice A n cap, .func (.func 36) #[] #[.pointer (some ⟨P, 0, none⟩), .pointer (some ⟨P + 1, 0, none⟩)], .agg #[.int .i64 x.who, .bool x.put, .int .i64 x.v, .int .i64 x.re, .int .i64 x.b, .int .i64 x.e], undef, undef, undef, undef, undef, undef, undef, undef, undef, undef, undef, undef, undef, undef, undef], defers := [] }) ?assign ?body ?done ?stop
 case assign =>
  intro lp x Wy K hK
  unfold evC at hK ⊢
  gi_wp2
  simpa using hK
 case body =>
  rintro lp ys x E Wy hE hxl hxr hB hsz hx ⟨⟨⟨hy, hr⟩, hz, hm⟩, hal⟩ hlen
  have kx := hx.cell
  have kz := hz.cell
  unfold evC at kx
  have hkw := key_wf (hv x hxl).1 (hv x hxl).2
  have hlk := hm.lookOk Try.underlying47 (zero_e Wy) hkw
  rw [HF.out] at hlk
  obtain ⟨t_, ht⟩ : ∃ t_, takeOf (gotsF l) x.v = t_ := ⟨_, rfl⟩
  rw [ht] at hlk
  cases t_ with
  | none =>
   have HA := Lib.hid (show (ys ++ [x]).all (putInTime l) = true by rw [List.all_append, hal]; simp [putInTime, ht])
   simp only [Option.map_none, Option.getD_none, Option.isSome_none] at hlk
   clear ht hal
   have hba : Below Wy.heap.size Wy (Wy.alloc (.cells #[.int .i64 0, .bool false, .int .i64 0, .int .i64 0, .int .i64 0, .int .i64 0] 31)) := (Below.refl _ _).alloc (Nat.le_refl _) _
   gi_wp2
   refine ⟨trivial, ?_⟩
   gi_wp2
   exact ⟨⟨X, by omega, by omega, .of_below hba⟩, ⟨⟨hy.below hba hy.lt, hr.below hba hr.lt⟩, hz.below hba hz.lt, hm.below hba⟩, HA.out⟩
  | some t =>
   have HT := Lib.hid ht
   simp only [Option.map_some, Option.getD_some, Option.isSome_some] at hlk
   unfold evC at hlk
   clear ht
   gi_upto_region 5 with fail
   have hba : Below Wy.heap.size Wy (Wy.alloc (.cells #[.int .i64 t.who, .bool t.put, .int .i64 t.v, .int .i64 t.re, .int .i64 t.b, .int .i64 t.e] 31)) := (Below.refl _ _).alloc (Nat.le_refl _) _
   have htb : BoxAt (Wy.alloc (.cells #[.int .i64 t.who, .bool t.put, .int .i64 t.v, .int .i64 t.re, .int .i64 t.b, .int .i64 t.e] 31)) Wy.heap.size (evC t) 31 := BoxAt.new _ _ _
   have hx2 := hx.below hba hx.lt
   have hy2 := hy.below hba hy.lt
   have hr2 := hr.below hba hr.lt
   have hz2 := hz.below hba hz.lt
   have hm2 := hm.below hba
   have hB2 := bstep hB hB.size hba
   clear kx kz hlk
   have HBA := Lib.hid hba
   clear hba
   replace hba := HBA.out
   generalize Wy.alloc (.cells #[.int .i64 t.who, .bool t.put, .int .i64 t.v, .int .i64 t.re, .int .i64 t.b, .int .i64 t.e] 31) = Wt at *
   obtain ⟨T, hT⟩ : ∃ T, Wy.heap.size = T := ⟨_, rfl⟩
   rw [hT] at htb ⊢
   have kx := hx2.cell
   have ky := hy2.cell
   have kt := htb.cell
   unfold evC at kx kt
   gi_wp2_with fail
   refine ⟨trivial, (callsIn_wide.2 (allGot_any l x t A n cap Wt (h.below hB2) hn hv)).mono ?_⟩
   rintro e W3 ⟨rfl, hb3⟩
   have hr3 := hr2.below hb3 hr2.lt
   have hy3 := hy2.below hb3 hy2.lt
   have hz3 := hz2.below hb3 hz2.lt
   have hm3 := hm2.below hb3
   have kr := hr3.cell
   have fr := hr3.frozen
   have hbw : Below Wy.heap.size Wy W3 := hba.trans (hb3.mono hba.size)
   clear kx ky kt
   cases hp : allGotB l x t
   ·
    have HA := Lib.hid (show (ys ++ [x]).all (putInTime l) = false by rw [List.all_append, hal]; simp [putInTime, HT.out, hp])
    clear hal hp
    gi_wp2
    exact ⟨⟨X, by omega, by omega, (But.of_below hbw).set 0 _⟩, hr3.set 0 _, HA.out⟩
   ·
    have HA := Lib.hid (show (ys ++ [x]).all (putInTime l) = true by rw [List.all_append, hal]; simp [putInTime, HT.out, hp])
    clear hal hp
    gi_wp2
    exact ⟨⟨X, by omega, by omega, .of_below hbw⟩, ⟨⟨hy3, hr3⟩, hz3, hm3⟩, HA.out⟩
 case done =>
  rintro D Wd hD hB hsz ⟨⟨⟨hy, hr⟩, hz, hm⟩, hal⟩ hdef
  have HDF := Lib.hid hdef
  have HR := Lib.hid (show gotOrd l = true from hal)
  have kr := hr.cell
  have fr := hr.frozen
  clear hdef hal hm
  gi_wp2
  have hd2 := (KeepsOthers.setCell Wd ⟨X, 0, none⟩ (.bool true)).same D _ HDF.out rfl
  refine leavesR (M := w.heap.size) (fun Wg => BoxAt Wg X #[.bool true] 4 ∧ Below w.heap.size w Wg) (fun Wg hG => ?_) (fun Wg D hD hG hs => ⟨box_own (β := Unit) (C := 0) () _ _ (some D) hG.1 (grownBy_putObj' _ D (.deferred none)) (fun r e => by cases e; exact ⟨Nat.zero_le _, _, hs, rfl⟩), hG.2.trans (belowK_b (w := w) (Nat.le_refl _) _ D _ _ hD hs rfl rfl)⟩) [D] _ (by simp) (fun E hE => by obtain rfl : E = D := List.mem_singleton.1 hE; exact ⟨by omega, hd2⟩) ⟨hr.set 0 _, hB.setCell (p := ⟨X, 0, none⟩) (by simp; omega) _⟩
  have kg := hG.1.cell
  exact ⟨.bool true, by simp [results, Try.results30, go_sem, kg], .mk (congrArg Value.bool HR.out.symm) hG.2⟩
 case stop =>
  rintro D ys Ws hD hB hsz hpre ⟨hr, hal⟩ hdef
  have HR := Lib.hid (show gotOrd l = false by
   obtain ⟨s, hs⟩ := hpre
   unfold gotOrd putsF
   rw [← hs, List.all_append, hal]; rfl)
  clear hal
  gi_wp2
  refine leavesR (M := w.heap.size) (fun Wg => BoxAt Wg X #[.bool false] 4 ∧ Below w.heap.size w Wg) (fun Wg hG => ?_) (fun Wg D hD hG hs => ⟨box_own (β := Unit) (C := 0) () _ _ (some D) hG.1 (grownBy_putObj' _ D (.deferred none)) (fun r e => by cases e; exact ⟨Nat.zero_le _, _, hs, rfl⟩), hG.2.trans (belowK_b (w := w) (Nat.le_refl _) _ D _ _ hD hs rfl rfl)⟩) [D] _ (by simp) (fun E hE => by obtain rfl : E = D := List.mem_singleton.1 hE; exact ⟨by omega, hdef⟩) ⟨hr, hB⟩
  have kg := hG.1.cell
  exact ⟨.bool false, by simp [results, Try.results30, go_sem, kg], .mk (congrArg Value.bool HR.out.symm) hG.2⟩

set_option maxHeartbeats 1000000 in
theorem iinOrder_any (l : List Ev) (A : Option Addr) (n cap : Nat) (w : World) (h : EvsR w A n l) (hn : n ≤ 1048576) :
  Calls Try.prog 13 #[.slice A n cap] w (RetBelow (.bool (storyOk l && (anyTwice l || gotOrd l))) w) := by
 have HL := Lib.hid h.1
 go_enter Try.func13, Try.ntmps13
 go_wp2_with fail
 refine (istory_any l A n cap _ h hn).mono ?_
 rintro e w1 ⟨rfl, hB⟩
 have h1 := h.below hB
 cases hok : storyOk l
 ·
  have HR := Lib.hid (show (storyOk l && (anyTwice l || gotOrd l)) = false by rw [hok]; rfl)
  clear hok
  go_wp2
  go_ret
  exact .mk (congrArg Value.bool HR.out.symm) hB
 have HOK := Lib.hid hok
 have hv := story_vals hok
 have h16 : n ≤ 16 := by
  unfold storyOk at hok
  simp only [Bool.and_eq_true, decide_eq_true_eq] at hok
  have := HL.out
  omega
 clear hok
 go_wp2_with fail
 refine (anyTwice_any l A n cap _ h1 hn hv).mono ?_
 rintro e w2 ⟨rfl, hb2⟩
 have h2 := h1.below hb2
 replace hB := bstep hB hB.size hb2
 cases htw : anyTwice l
 case true =>
  have HR := Lib.hid (show (storyOk l && (anyTwice l || gotOrd l)) = true by rw [HOK.out, htw]; rfl)
  clear htw
  go_wp2
  go_ret
  exact .mk (congrArg Value.bool HR.out.symm) hB
 have HR := Lib.hid (show (storyOk l && (anyTwice l || gotOrd l)) = gotOrd l by rw [HOK.out, htw]; rfl)
 clear htw
 go_wp2_with fail
 refine (gotOrd_any l A n cap _ h2 h16 hv).mono ?_
 rintro e w3 ⟨rfl, hb3⟩
 go_wp2
 go_ret
 exact .mk (congrArg Value.bool HR.out.symm) (bstep hB hB.size hb3)

set_option maxHeartbeats 1000000 in
theorem iempty_any (l : List Ev) (A : Option Addr) (n cap : Nat) (w : World) (h : EvsR w A n l) (hn : n ≤ 1048576) :
  Calls Try.prog 15 #[.slice A n cap] w (RetBelow (.bool (storyOk l && (anyTwice l || emptyR l))) w) := by
 have HL := Lib.hid h.1
 go_enter Try.func15, Try.ntmps15
 go_wp2_with fail
 refine (istory_any l A n cap _ h hn).mono ?_
 rintro e w1 ⟨rfl, hB⟩
 have h1 := h.below hB
 cases hok : storyOk l
 ·
  have HR := Lib.hid (show (storyOk l && (anyTwice l || emptyR l)) = false by rw [hok]; rfl)
  clear hok
  go_wp2
  go_ret
  exact .mk (congrArg Value.bool HR.out.symm) hB
 have HOK := Lib.hid hok
 have hv := story_vals hok
 have h16 : n ≤ 16 := by
  unfold storyOk at hok
  simp only [Bool.and_eq_true, decide_eq_true_eq] at hok
  have := HL.out
  omega
 clear hok
 go_wp2_with fail
 refine (anyTwice_any l A n cap _ h1 hn hv).mono ?_
 rintro e w2 ⟨rfl, hb2⟩
 have h2 := h1.below hb2
 replace hB := bstep hB hB.size hb2
 cases htw : anyTwice l
 case true =>
  have HR := Lib.hid (show (storyOk l && (anyTwice l || emptyR l)) = true by rw [HOK.out, htw]; rfl)
  clear htw
  go_wp2
  go_ret
  exact .mk (congrArg Value.bool HR.out.symm) hB
 have HR := Lib.hid (show (storyOk l && (anyTwice l || emptyR l)) = emptyR l by rw [HOK.out, htw]; rfl)
 clear htw
 go_wp2_with fail
 refine (emptyR_any l A n cap _ h2 h16 hv).mono ?_
 rintro e w3 ⟨rfl, hb3⟩
 go_wp2
 go_ret
 exact .mk (congrArg Value.bool HR.out.symm) (bstep hB hB.size hb3)

end Go.Proofs.Ytghgfbncijfocaa
