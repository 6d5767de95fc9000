/-
 Hands: the program's walks, and the laws' helpers on hands.
-/
import Derived.Test.YthpckpnlohfcbaaGreatDoorHand
import Derived.Test.YthpckpnlohfcbaaGreatDoorOpenS
namespace Go.Proofs.YthpckpnlohfcbaaGreatDoor
set_option linter.unusedSimpArgs false
set_option linter.unusedVariables false
open Go.RowKit
set_option linter.unusedVariables false
attribute [local go_sem ↓] Go.wp_at_zero Go.wp_at_succ
theorem zhanO0 {p : Prop} (h : p := by
 simp only [inB]
 rw [Bool.eq_iff_iff]; simp only [Bool.and_eq_true, Bool.or_eq_true, decide_eq_true_eq, Bool.not_eq_true', Bool.and_eq_false_iff, decide_eq_false_iff_not]; omega) : p := h -- 43ebc157

def kindN (z : Int) : Int := if z = 0 then 1 else if 1 ≤ z ∧ z ≤ 12 then 2 else if 13 ≤ z ∧ z ≤ 24 then 3 else 0
set_option maxHeartbeats 400000 in
theorem kindOf_any (z : Int) (w : World) : Calls Tryz.prog 83 #[z] w (Quiet1 (.int .i64 (kindN z)) w) := by
 have hc : z = 0 ∨ (1 ≤ z ∧ z ≤ 12) ∨ (13 ≤ z ∧ z ≤ 24) ∨ (z < 0 ∨ 24 < z) := by omega
 have hk0 : z = 0 → kindN z = 1 := fun h => by simp [kindN, h]
 have hk1 : 1 ≤ z ∧ z ≤ 12 → kindN z = 2 := fun h => by unfold kindN; rw [if_neg (by omega), if_pos h]
 have hk2 : 13 ≤ z ∧ z ≤ 24 → kindN z = 3 := fun h => by unfold kindN; rw [if_neg (by omega), if_neg (by omega), if_pos h]
 have hk3 : (z < 0 ∨ 24 < z) → kindN z = 0 := fun h => by unfold kindN; rw [if_neg (by omega), if_neg (by omega), if_neg (by omega)]
 rcases hc with h | h | h | h
 ·
  rw [hk0 h]
  clear hk0 hk1 hk2 hk3
  subst h
  go_enter Tryz.func83, Tryz.ntmps83
  go_wp2
  go_ret
  exact ⟨rfl, rfl⟩
 ·
  rw [hk1 h]
  clear hk0 hk1 hk2 hk3
  have h0 : ¬ z = 0 := by omega
  obtain ⟨h1, h2⟩ := h
  go_enter Tryz.func83, Tryz.ntmps83
  go_wp2
  go_ret
  exact ⟨rfl, rfl⟩
 ·
  rw [hk2 h]
  clear hk0 hk1 hk2 hk3
  have h0 : ¬ z = 0 := by omega
  obtain ⟨h1, h2⟩ := h
  have h3 : ¬ z ≤ 12 := by omega
  have h4 : 1 ≤ z := by omega
  go_enter Tryz.func83, Tryz.ntmps83
  go_wp2
  go_ret
  exact ⟨rfl, rfl⟩
 ·
  rw [hk3 h]
  clear hk0 hk1 hk2 hk3
  have h0 : ¬ z = 0 := by omega
  go_enter Tryz.func83, Tryz.ntmps83
  rcases h with h | h
  ·
   have h3 : ¬ 1 ≤ z := by omega
   have h4 : ¬ 13 ≤ z := by omega
   go_wp2
   go_ret
   exact ⟨rfl, rfl⟩
  ·
   have h3 : 1 ≤ z := by omega
   have h4 : ¬ z ≤ 12 := by omega
   have h5 : 13 ≤ z := by omega
   have h6 : ¬ z ≤ 24 := by omega
   go_wp2
   go_ret
   exact ⟨rfl, rfl⟩
def avB (at_ v : Int) : Bool := inB at_ 0 24 && inB v 0 1000000 && (!putB at_ || decide (0 < v))
set_option maxRecDepth 100000 in
set_option maxHeartbeats 1000000 in
theorem atAndValueOk_any (h : Hd) (w : World) : Calls Tryz.prog 99 #[hdV h] w (RetBelow (.bool (avB h.at_ h.v)) w) := by
 have hkn : kindN h.at_ = 0 ∧ avB h.at_ h.v = false ∨ (kindN h.at_ = 1 ∨ kindN h.at_ = 3) ∧ avB h.at_ h.v = inB h.v 0 1000000 ∨ kindN h.at_ = 2 ∧ avB h.at_ h.v = inB h.v 1 1000000 := by
  unfold kindN avB inB putB
  by_cases h0 : h.at_ = 0
  · rw [if_pos h0]; simp [h0, inB]
  ·
   rw [if_neg h0]
   by_cases h1 : 1 ≤ h.at_ ∧ h.at_ ≤ 12
   ·
    rw [if_pos h1]; right; right; refine ⟨rfl, ?_⟩
    exact zhanO0
   ·
    rw [if_neg h1]
    by_cases h2 : 13 ≤ h.at_ ∧ h.at_ ≤ 24
    ·
     rw [if_pos h2]; right; left; refine ⟨.inr rfl, ?_⟩
     exact zhanO0
    ·
     rw [if_neg h2]; left; refine ⟨rfl, ?_⟩
     rw [Bool.eq_false_iff]; simp only [inB, ne_eq, Bool.and_eq_true, Bool.or_eq_true, decide_eq_true_eq, Bool.not_eq_true', Bool.and_eq_false_iff, decide_eq_false_iff_not]; omega
 unfold hdV
 go_enter Tryz.func99, Tryz.ntmps99
 go_wp2_with fail
 refine calls_abs (fun W => Below w.heap.size w W ∧ BoxAt W w.heap.size (aH h) 35) ⟨(Below.refl _ _).alloc (Nat.le_refl _) _, BoxAt.new _ _ _⟩ ?_
 rintro W ⟨hB, hx⟩
 have kx := hx.cell
 refine (kindOf_any _ _).mono ?_
 rintro e w' ⟨rfl, rfl⟩
 rcases hkn with ⟨hk, hv⟩ | ⟨hk, hv⟩ | ⟨hk, hv⟩
 ·
  have HV := Lib.hid hv; clear hv
  go_wp2
  go_ret
  exact .mk (congrArg Value.bool HV.out.symm) hB
 ·
  have e : (h.v == 0 || valB h.v) = avB h.at_ h.v := by
   rw [hv, Bool.eq_iff_iff]; simp only [valB, inB, Bool.and_eq_true, Bool.or_eq_true, beq_iff_eq, decide_eq_true_eq]; omega
  have HE := Lib.hid e; clear hv e
  rcases hk with hk | hk
  all_goals
   by_cases h0 : h.v = 0
   ·
    have hb0 : (h.v == 0) = true := by simp [h0]
    have HE2 := Lib.hid (show avB h.at_ h.v = true from by rw [← HE.out, hb0]; rfl)
    go_wp2
    go_ret
    exact .mk (congrArg Value.bool HE2.out.symm) hB
   ·
    have hb0 : (h.v == 0) = false := by simp [h0]
    have HE2 := Lib.hid (show valB h.v = avB h.at_ h.v from by rw [← HE.out, hb0]; rfl)
    go_wp2_with fail
    refine (isValue_any _ _).mono ?_
    rintro e w' ⟨rfl, rfl⟩
    go_wp2
    go_ret
    exact .mk (congrArg Value.bool HE2.out) hB
 ·
  have e : avB h.at_ h.v = valB h.v := hv
  have HE := Lib.hid e; clear hv e
  by_cases h0 : h.v = 0
  ·
   have hb0 : (h.v == 0) = true := by simp [h0]
   have HE2 := Lib.hid (show avB h.at_ h.v = false from by rw [HE.out, h0]; rfl)
   go_wp2
   go_ret
   exact .mk (congrArg Value.bool HE2.out.symm) hB
  ·
   have hb0 : (h.v == 0) = false := by simp [h0]
   go_wp2_with fail
   refine (isValue_any _ _).mono ?_
   rintro e w' ⟨rfl, rfl⟩
   go_wp2
   go_ret
   exact .mk (congrArg Value.bool HE.out.symm) hB
def spB (z : Int) : Bool := inB z (-1) 15
set_option maxHeartbeats 400000 in
theorem isSpare_any (z : Int) (w : World) : Calls Tryz.prog 103 #[z] w (Quiet1 (.bool (spB z)) w) := by
 go_enter Tryz.func103, Tryz.ntmps103
 by_cases h : z = -1
 ·
  subst h
  go_wp2
  go_ret
  exact ⟨rfl, rfl⟩
 ·
  have hb0 : (z == -1) = false := by simp [h]
  have HE := Lib.hid (show idxB z = spB z from by rw [Bool.eq_iff_iff]; simp only [idxB, spB, inB, Bool.and_eq_true, decide_eq_true_eq]; omega)
  go_wp2_with fail
  refine (isRingIndex_any _ _).mono ?_
  rintro e w' ⟨rfl, rfl⟩
  go_wp2
  go_ret
  exact ⟨congrArg (fun x => Ending.returned (Value.bool x)) HE.out, rfl⟩
set_option maxHeartbeats 400000 in
theorem isReply_any (z : Int) (w : World) : Calls Tryz.prog 104 #[z] w (Quiet1 (.bool (inB z 0 4)) w) := by
 go_enter Tryz.func104, Tryz.ntmps104
 by_cases h : 0 ≤ z
 ·
  by_cases h' : z ≤ 4
  ·
   go_wp2
   go_ret
   exact ⟨by simp [inB, h, h'], rfl⟩
  ·
   go_wp2
   go_ret
   exact ⟨by simp [inB, h, h'], rfl⟩
 ·
  go_wp2
  go_ret
  exact ⟨by simp [inB]; omega, rfl⟩
theorem Hd.ok_eq (h : Hd) : h.ok = (avB h.at_ h.v && idxB h.r && noB h.t && noB h.tr && okB h.seen.n h.seen.f h.seen.v && spB h.sp && inB h.re 0 4) := by
 unfold Hd.ok Hd.okA Hd.okC avB spB
 have : inB h.r 0 15 = idxB h.r := by rw [Bool.eq_iff_iff]; simp only [idxB, inB, Bool.and_eq_true, decide_eq_true_eq]; omega
 rw [this]
 cases inB h.at_ 0 24 <;> cases inB h.v 0 1000000 <;> cases idxB h.r <;> cases noB h.t <;> cases noB h.tr <;> cases okB h.seen.n h.seen.f h.seen.v <;> cases inB h.sp (-1) 15 <;> cases inB h.re 0 4 <;> cases (!putB h.at_ || decide (0 < h.v)) <;> rfl
set_option maxRecDepth 100000 in
set_option maxHeartbeats 1000000 in
theorem ihandOk_any (h : Hd) (w : World) : Calls Tryz.prog 82 #[hdV h] w (RetBelow (.bool h.ok) w) := by
 unfold hdV
 go_enter Tryz.func82, Tryz.ntmps82
 go_wp2_with fail
 refine calls_abs (fun W => Below w.heap.size w W ∧ BoxAt W w.heap.size (aH h) 35) ⟨(Below.refl _ _).alloc (Nat.le_refl _) _, BoxAt.new _ _ _⟩ ?_
 rintro W ⟨hB, hx⟩
 refine (atAndValueOk_any h _).mono ?_
 rintro e w1 ⟨rfl, hb1⟩
 replace hx := hx.below hb1 hx.lt
 replace hB := bstep hB hB.size hb1
 clear hb1
 have kx := hx.cell
 cases h0 : avB h.at_ h.v
 ·
  go_wp2
  go_ret
  exact .mk (by simp [Hd.ok_eq, h0]) hB
 go_wp2_with fail
 refine (isRingIndex_any _ _).mono ?_
 rintro e w' ⟨rfl, rfl⟩
 cases h1 : idxB h.r
 ·
  go_wp2
  go_ret
  exact .mk (by simp [Hd.ok_eq, h1]) hB
 go_wp2_with fail
 refine (isNo_any _ _).mono ?_
 rintro e w' ⟨rfl, rfl⟩
 cases h2 : noB h.t
 ·
  go_wp2
  go_ret
  exact .mk (by simp [Hd.ok_eq, h2]) hB
 go_wp2_with fail
 refine (isNo_any _ _).mono ?_
 rintro e w' ⟨rfl, rfl⟩
 cases h3 : noB h.tr
 ·
  go_wp2
  go_ret
  exact .mk (by simp [Hd.ok_eq, h3]) hB
 go_wp2_with fail
 refine (iplaceOk_any _ _ _ _ _).mono ?_
 rintro e w1 ⟨rfl, hb1⟩
 replace hx := hx.below hb1 hx.lt
 replace hB := bstep hB hB.size hb1
 clear hb1 kx
 have kx := hx.cell
 cases h4 : okB h.seen.n h.seen.f h.seen.v
 ·
  go_wp2
  go_ret
  exact .mk (by simp [Hd.ok_eq, h4]) hB
 go_wp2_with fail
 refine (isSpare_any _ _).mono ?_
 rintro e w' ⟨rfl, rfl⟩
 cases h5 : spB h.sp
 ·
  go_wp2
  go_ret
  exact .mk (by simp [Hd.ok_eq, h5]) hB
 go_wp2_with fail
 refine (isReply_any _ _).mono ?_
 rintro e w' ⟨rfl, rfl⟩
 go_wp2
 go_ret
 exact .mk (by simp [Hd.ok_eq, h0, h1, h2, h3, h4, h5]) hB
theorem putting_eq (h : Hd) : isPutting h = (h.ok && (kindN h.at_ == 2)) := by
 unfold isPutting kindN
 congr 1
 rw [Bool.eq_iff_iff]
 simp only [putB, inB, Bool.and_eq_true, decide_eq_true_eq, beq_iff_eq]
 split
 · omega
 ·
  split
  · simp_all
  · split <;> omega
set_option maxRecDepth 100000 in
set_option maxHeartbeats 400000 in
theorem iis_any (h : Hd) (k : Int) (w : World) : Calls Tryz.prog 53 #[hdV h, k] w (RetBelow (.bool (h.ok && (kindN h.at_ == k))) w) := by
 unfold hdV
 go_enter Tryz.func53, Tryz.ntmps53
 go_wp2_with fail
 refine calls_abs (fun W => Below w.heap.size w W ∧ BoxAt W w.heap.size (aH h) 35) ⟨(Below.refl _ _).alloc (Nat.le_refl _) _, BoxAt.new _ _ _⟩ ?_
 rintro W ⟨hB, hx⟩
 refine (ihandOk_any h _).mono ?_
 rintro e w1 ⟨rfl, hb1⟩
 replace hx := hx.below hb1 hx.lt
 replace hB := bstep hB hB.size hb1
 clear hb1
 have kx := hx.cell
 cases hok : h.ok
 ·
  go_wp2
  go_ret
  exact .mk (by simp [hok]) hB
 have HOK := Lib.hid hok
 go_wp2_with fail
 refine (kindOf_any _ _).mono ?_
 rintro e w' ⟨rfl, rfl⟩
 generalize kindN h.at_ = kn at *
 go_wp2
 go_ret
 exact .mk (by simp [HOK.out]) hB
set_option maxRecDepth 100000 in
set_option maxHeartbeats 2000000 in
theorem toHand_any (h : Hd) (w : World) : Calls Tryz.prog 10 #[hdV h] w (RetBelow (hdV h) w) := by
 unfold hdV
 go_enter Tryz.func10, Tryz.ntmps10
 go_wp2_with fail
 refine calls_abs (fun W => Below w.heap.size w W ∧ BoxAt W w.heap.size (aH h) 28 ∧ BoxAt W (w.heap.size + 1) zH 35 ∧ BoxAt W (w.heap.size + 1 + 1) (eH h.at_ h.v h.r h.t false 0 false 0 0 0 false 0) 35) ⟨(((Below.refl _ _).alloc (Nat.le_refl _) _).alloc (by simp) _).alloc (by simp; omega) _, ((BoxAt.new _ _ _).alloc _).alloc _, (BoxAt.new' (by simp)).alloc _, BoxAt.new' (by simp)⟩ ?_
 rintro W ⟨hB, hx, hy, hz⟩
 have kx := hx.cell
 refine (toPlace_any _ _ _ _ _).mono ?_
 rintro e w1 ⟨rfl, hb1⟩
 replace hx := hx.below hb1 hx.lt
 replace hy := hy.below hb1 hy.lt
 replace hz := hz.below hb1 hz.lt
 replace hB := bstep hB hB.size hb1
 clear hb1 kx
 have kx := hx.cell
 have ky := hy.cell
 have kz := hz.cell
 have fx := hx.frozen
 have fy := hy.frozen
 have fz := hz.frozen
 go_wp2
 refine bodyPost_ret (v := .agg (aH h)) (by simp [results, Tryz.results10, go_sem, ky]) rfl ⟨by rfl, ?_⟩
 exact (sc (sc (sc (sc (sc (sc (sc (sc (sc (sc (sc (sc (sc (sc (sc (sc (sc (sc (sc (sc hB))))))))))))))))))))
set_option maxRecDepth 100000 in
set_option maxHeartbeats 400000 in
theorem eqHand_same (h : Hd) (w : World) : Calls Tryz.prog 13 #[hdV h, hdV h] w (RetBelow (.bool true) w) := by
 unfold hdV
 go_enter Tryz.func13, Tryz.ntmps13
 go_wp2_with fail
 refine calls_abs (fun W => Below w.heap.size w W ∧ BoxAt W w.heap.size (aH h) 35 ∧ BoxAt W (w.heap.size + 1) (aH h) 35) ⟨((Below.refl _ _).alloc (Nat.le_refl _) _).alloc (by simp) _, (BoxAt.new _ _ _).alloc _, BoxAt.new' (by simp)⟩ ?_
 rintro W ⟨hB, hx, hy⟩
 have kx := hx.cell
 have ky := hy.cell
 refine (eqPlace_same _ _ _ _ _).mono ?_
 rintro e w1 ⟨rfl, hb1⟩
 replace hx := hx.below hb1 hx.lt
 replace hy := hy.below hb1 hy.lt
 replace hB := bstep hB hB.size hb1
 clear hb1 kx ky
 have kx := hx.cell
 have ky := hy.cell
 go_wp2
 go_ret
 exact .mk rfl hB
end Go.Proofs.YthpckpnlohfcbaaGreatDoor
namespace Go.Proofs.YthpckpnlohfcbaaGreatDoor
set_option linter.unusedSimpArgs false
set_option linter.unusedVariables false
open Go.ChangeShapes Go.WideShapes Go.ChangeAt Go.RowKit Go.Joins Go.Deep
section
variable {H : Type} {enc : TypeId × Value → H} {w : World} {base : Nat} {spare : Nat → Bool} {held : Bool} {P : Program}
theorem open_fields {t : TypeId} {fs : Array Field} (hs : P.underlying t = some (.struct fs)) {fuel : Nat} {cs : List Value} {x : DataW H × List MemPlace}
  (h : DataW.trod enc P w base spare held fuel t cs = some x) : cs.length = P.cellsOf t ∧ ∃ n, ∀ (j : Nat) (f : Field) (o k : Nat) (us : List Value), fs[j]? = some f → f.offset = o → P.cellsOf f.type = k → (cs.drop o).take k = us → ∃ y, DataW.trod enc P w base spare held n f.type us = some y := by
 obtain ⟨xs, n, _, _, hl, hxl, hf⟩ := DataW.trod_struct hs h
 refine ⟨hl, n, fun j f o k us hj ho hk hu => ?_⟩
 have h1 := hf j f hj
 rw [ho, hk, hu] at h1
 have hjl : j < fs.size := (Array.getElem?_eq_some_iff.1 hj).1
 exact ⟨xs[j]'(by omega), by rw [h1]; exact List.getElem?_eq_getElem (by omega)⟩
theorem trod_hand {fuel : Nat} {cs : List Value} {x : DataW H × List MemPlace} (h : DataW.trod enc Tryz.prog w base spare held fuel 28 cs = some x) : ∃ h : Hd, cs = (aH h) := by
 obtain ⟨hl, n, hf⟩ := open_fields Tryz.underlying28 h
 rw [show Tryz.prog.cellsOf 28 = 12 by kernel_rfl] at hl
 match cs, hl with
 | [c0, c1, c2, c3, c4, c5, c6, c7, c8, c9, c10, c11], _ =>
  obtain ⟨y0, h0⟩ := hf 0 _ 0 1 [c0] rfl rfl (by kernel_rfl) rfl
  obtain ⟨y1, h1⟩ := hf 1 _ 1 1 [c1] rfl rfl (by kernel_rfl) rfl
  obtain ⟨y2, h2⟩ := hf 2 _ 2 1 [c2] rfl rfl (by kernel_rfl) rfl
  obtain ⟨y3, h3⟩ := hf 3 _ 3 1 [c3] rfl rfl (by kernel_rfl) rfl
  obtain ⟨y4, h4⟩ := hf 4 _ 4 4 [c4, c5, c6, c7] rfl rfl (by kernel_rfl) rfl
  obtain ⟨y5, h5⟩ := hf 5 _ 8 1 [c8] rfl rfl (by kernel_rfl) rfl
  obtain ⟨y6, h6⟩ := hf 6 _ 9 1 [c9] rfl rfl (by kernel_rfl) rfl
  obtain ⟨y7, h7⟩ := hf 7 _ 10 1 [c10] rfl rfl (by kernel_rfl) rfl
  obtain ⟨y8, h8⟩ := hf 8 _ 11 1 [c11] rfl rfl (by kernel_rfl) rfl
  obtain ⟨z0, e0, _, _⟩ := DataW.trod_int Tryz.underlying2 h0
  obtain ⟨z1, e1, _, _⟩ := DataW.trod_int Tryz.underlying2 h1
  obtain ⟨z2, e2, _, _⟩ := DataW.trod_int Tryz.underlying2 h2
  obtain ⟨z3, e3, _, _⟩ := DataW.trod_int Tryz.underlying2 h3
  obtain ⟨z4, e4⟩ := trod_place h4
  obtain ⟨z5, e5, _, _⟩ := DataW.trod_int Tryz.underlying2 h5
  obtain ⟨z6, e6, _, _⟩ := DataW.trod_int Tryz.underlying2 h6
  obtain ⟨z7, e7, _⟩ := DataW.trod_bool Tryz.underlying4 h7
  obtain ⟨z8, e8, _, _⟩ := DataW.trod_int Tryz.underlying2 h8
  simp only [List.cons.injEq, and_true, Pl.cs] at e0 e1 e2 e3 e4 e5 e6 e7 e8
  obtain ⟨f0, f1, f2, f3⟩ := e4
  exact ⟨⟨z0, z1, z2, z3, z4, z5, z6, z7, z8⟩, by rw [e0, e1, e2, e3, f0, f1, f2, f3, e5, e6, e7, e8]⟩
set_option maxRecDepth 100000 in
theorem open_hand {b0 : Nat} {v : Value} {d : DataW H} {p : List MemPlace} (hv : Value.okWide Tryz.prog w .any b0 28 v) (h : DataW.Trod enc Tryz.prog w base spare held 28 v d p) :
  ∃ h : Hd, v = hdV h := by
 obtain ⟨cs, rfl, _⟩ := okWide_struct Tryz.underlying28 hv
 obtain ⟨fuel, hf⟩ := h
 obtain ⟨h, hc⟩ := trod_hand hf
 refine ⟨h, ?_⟩
 have : cs = (aH h) := by
  apply Array.toList_inj.1
  simpa [Value.cells] using hc
 rw [this]; rfl
end
end Go.Proofs.YthpckpnlohfcbaaGreatDoor
