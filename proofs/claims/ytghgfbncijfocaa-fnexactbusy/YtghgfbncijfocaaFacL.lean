/-
 Whether all that is due was got.
-/
import Derived.Test.YtghgfbncijfocaaFacK
import Derived.Laws.StructEq
namespace Go.Proofs.Ytghgfbncijfocaa
set_option linter.unusedSimpArgs false
set_option linter.unusedVariables false
open Go.RowKit Go.Shelf Go.Maps
set_option linter.unusedVariables false
attribute [local go_sem ↓] Go.wp_at_zero Go.wp_at_succ

/-! ### Arrays of sixteen flags -/

def flags (bs : List Bool) : Array Value := (bs.map Value.bool).toArray
theorem flags_get {bs : List Bool} {i : Nat} {b : Bool} (h : bs[i]? = some b) : (flags bs)[i]? = some (.bool b) := by simp [flags, h]
theorem flags_set (bs : List Bool) (i : Nat) (b : Bool) : (flags bs).setIfInBounds i (.bool b) = flags (bs.set i b) := by simp [flags, List.map_set]
theorem idx16 (b i : Nat) (h : i < 16) (W : World) : (Instr.indexAt 58 (.pointer (some ⟨b, 0, none⟩)) (.int .i64 (i : Int))).run Try.prog W = .ok (.pointer (some ⟨b, i, none⟩)) W :=
 match i, h with
 | 0, _ => by kernel_rfl
 | 1, _ => by kernel_rfl
 | 2, _ => by kernel_rfl
 | 3, _ => by kernel_rfl
 | 4, _ => by kernel_rfl
 | 5, _ => by kernel_rfl
 | 6, _ => by kernel_rfl
 | 7, _ => by kernel_rfl
 | 8, _ => by kernel_rfl
 | 9, _ => by kernel_rfl
 | 10, _ => by kernel_rfl
 | 11, _ => by kernel_rfl
 | 12, _ => by kernel_rfl
 | 13, _ => by kernel_rfl
 | 14, _ => by kernel_rfl
 | 15, _ => by kernel_rfl
 | n + 16, h => absurd h (by omega)
theorem list16 : ∀ {bs : List Bool}, bs.length = 16 → ∃ a0 a1 a2 a3 a4 a5 a6 a7 a8 a9 a10 a11 a12 a13 a14 a15, bs = [a0, a1, a2, a3, a4, a5, a6, a7, a8, a9, a10, a11, a12, a13, a14, a15]
 | [a0, a1, a2, a3, a4, a5, a6, a7, a8, a9, a10, a11, a12, a13, a14, a15], _ => ⟨_, _, _, _, _, _, _, _, _, _, _, _, _, _, _, _, rfl⟩
theorem beq_upto (xs ys : List Bool) (h : xs.length = ys.length) : ((List.range' 0 xs.length).all fun i => xs.getD i false == ys.getD i false) = (xs == ys) := by
 rw [Bool.eq_iff_iff, List.all_eq_true, beq_iff_eq]
 constructor
 ·
  intro ha
  refine List.ext_getElem h fun i h1 h2 => ?_
  have := ha i (List.mem_range'_1.2 ⟨Nat.zero_le _, by omega⟩)
  rw [beq_iff_eq, List.getD_eq_getElem?_getD, List.getD_eq_getElem?_getD, List.getElem?_eq_getElem h1, List.getElem?_eq_getElem h2] at this
  exact this
 ·
  rintro rfl i _
  exact beq_self_eq_true _
theorem flag_part (bs : List Bool) {i : Nat} (h : i < bs.length) (W : World) : (part 4 (flags bs) (i * 1)).run Try.prog W = .ok (.bool (bs.getD i false)) W := by
 have hu := Try.underlying4
 simp [part, isAgg, run_underlying hu, flags, List.getD, List.getElem?_eq_getElem h]
theorem eql_flags (xs ys : List Bool) (hx : xs.length = 16) (hy : ys.length = 16) (W : World) : (binOp .eql 58 (.agg (flags xs)) (.agg (flags ys))).run Try.prog W = .ok (.bool (xs == ys)) W := by
 have hs : ∀ V, (sizeOf 4).run Try.prog V = .ok 1 V := fun V => by kernel_rfl
 have hu : Try.prog.underlying 58 = some (.array 16 4) := by kernel_rfl
 rw [run_eql_struct, Op.equalIn]
 simp only [Sem.run_bind, run_underlying hu, Result.andThen_ok, hs, Std.Legacy.Range.forIn_eq_forIn_range', Std.Legacy.Range.size, Nat.sub_zero, Nat.add_sub_cancel, Nat.div_one]
 rw [← beq_upto xs ys (by omega), hx]
 have hr : ∀ j ∈ List.range' 0 16 1, j < 16 := fun j hj => by have := (List.mem_range'_1.1 hj).2; omega
 revert hr
 generalize List.range' 0 16 1 = r
 intro hr
 induction r with
 | nil => simp
 | cons j r ih =>
  have hj := hr j List.mem_cons_self
  have e1 : (Op.equalIn 9999 4 (.bool (xs.getD j false)) (.bool (ys.getD j false))).run Try.prog W = .ok (xs.getD j false == ys.getD j false) W := run_equalIn_bool W 9998 4 _ _ Try.underlying4
  simp only [List.forIn_cons, Sem.run_bind, flag_part xs (show j < xs.length by omega), flag_part ys (show j < ys.length by omega), e1, Result.andThen_ok, List.all_cons]
  cases hb : (xs.getD j false == ys.getD j false)
  · simp
  ·
   simp only [Bool.not_true, Bool.false_eq_true, if_false, Sem.run_pure, Result.andThen_ok, Bool.true_and]
   exact ih fun i hi => hr i (List.mem_cons_of_mem _ hi)

/-! ### What is due, and what was got of it -/

def dueQ (next e : Ev) : Bool := e.re == 1 && decide (e.e < next.b)
def inTime (l : List Ev) (o : Ev) (v : Int) : Bool := match takeOf (gotsF l) v with
 | some t => !decide (o.e < t.b)
 | none => false
def gotQ (l : List Ev) (next o e : Ev) : Bool := dueQ next e && inTime l o e.v
def allGotB (l : List Ev) (next o : Ev) : Bool := l.all fun e => !dueQ next e || inTime l o e.v
theorem allGot_eq (l : List Ev) (next o : Ev) (r : List Bool) : (l.map (dueQ next) ++ r == l.map (gotQ l next o) ++ r) = allGotB l next o := by
 rw [Bool.eq_iff_iff, beq_iff_eq, List.append_left_inj, List.map_inj_left]
 unfold allGotB
 rw [List.all_eq_true]
 refine forall_congr' fun e => forall_congr' fun _ => ?_
 unfold gotQ
 cases dueQ next e <;> cases inTime l o e.v <;> simp

structure AGot (w : World) (x y : Ev) (X Y M k : Nat) (f : Int → Option Value) (D1 D2 : Nat) (ds gs : List Bool) (W : World) : Prop where
 b : Below w.heap.size w W
 x : BoxAt W X (evC x) 31
 y : BoxAt W Y (evC y) 31
 m : MapIs W M k f
 d : BoxAt W D1 (flags ds) 58
 g : BoxAt W D2 (flags gs) 58
 lo : w.heap.size ≤ X
 xy : X < Y
 ym : Y < M
 md : M < D1
 dg : D1 < D2
section
variable {w W W' : World} {x y : Ev} {X Y M k : Nat} {f : Int → Option Value} {D1 D2 : Nat} {ds gs : List Bool}
theorem AGot.below (h : AGot w x y X Y M k f D1 D2 ds gs W) (hb : Below W.heap.size W W') : AGot w x y X Y M k f D1 D2 ds gs W' :=
 ⟨bstep h.b h.b.size hb, h.x.below hb h.x.lt, h.y.below hb h.y.lt, h.m.below hb, h.d.below hb h.d.lt, h.g.below hb h.g.lt, h.lo, h.xy, h.ym, h.md, h.dg⟩
theorem AGot.setD (h : AGot w x y X Y M k f D1 D2 ds gs W) (i : Nat) (v : Bool) : AGot w x y X Y M k f D1 D2 (ds.set i v) gs (W.setCell ⟨D1, i, none⟩ (.bool v)) := by
 have h1 := h.lo
 have h2 := h.xy
 have h3 := h.ym
 have h4 := h.md
 have h5 := h.dg
 refine ⟨h.b.setCell (by simp; omega) _, h.x.sn, h.y.sn, h.m.but ((But.refl D1 W).set i _) (by omega), ?_, h.g.sn, h1, h2, h3, h4, h5⟩
 rw [← flags_set]
 exact h.d.set i _
theorem AGot.setG (h : AGot w x y X Y M k f D1 D2 ds gs W) (i : Nat) (v : Bool) : AGot w x y X Y M k f D1 D2 ds (gs.set i v) (W.setCell ⟨D2, i, none⟩ (.bool v)) := by
 have h1 := h.lo
 have h2 := h.xy
 have h3 := h.ym
 have h4 := h.md
 have h5 := h.dg
 refine ⟨h.b.setCell (by simp; omega) _, h.x.sn, h.y.sn, h.m.but ((But.refl D2 W).set i _) (by omega), h.d.sn, ?_, h1, h2, h3, h4, h5⟩
 rw [← flags_set]
 exact h.g.set i _
end
theorem evflags {W : World} {E : Nat} {x : Ev} {bs : List Bool} (h : BoxAt W E (evC x) 31) (g : BoxAt W E (flags bs) 58) : False := by
 unfold BoxAt at h g
 rw [h] at g
 injection g with g
 injection g with _ g
 revert g
 decide
theorem zero_e (w : World) : (zeroValue 31).run Try.prog w = .ok (.agg #[.int .i64 0, .bool false, .int .i64 0, .int .i64 0, .int .i64 0, .int .i64 0]) w := by kernel_rfl

set_option maxRecDepth 100000 in
set_option maxHeartbeats 4000000 in
theorem allGot_any (l : List Ev) (x y : Ev) (A : Option Addr) (n cap : Nat) (w : World) (h : EvsR w A n l) (hn : n ≤ 16) (hv : ∀ x ∈ l, 0 ≤ x.v ∧ x.v ≤ 1000000) :
  Calls Try.prog 39 #[.slice A n cap, .agg #[.int .i64 x.who, .bool x.put, .int .i64 x.v, .int .i64 x.re, .int .i64 x.b, .int .i64 x.e], .agg #[.int .i64 y.who, .bool y.put, .int .i64 y.v, .int .i64 y.re, .int .i64 y.b, .int .i64 y.e]] w (RetBelow (.bool (allGotB l x y)) w) := by
 have HL := Lib.hid h.1
 go_enter Try.func39, Try.ntmps39
 go_upto_region 1 with fail
 have hB0 : Below w.heap.size w ((w.alloc (.cells #[.int .i64 x.who, .bool x.put, .int .i64 x.v, .int .i64 x.re, .int .i64 x.b, .int .i64 x.e] 31)).alloc (.cells #[.int .i64 y.who, .bool y.put, .int .i64 y.v, .int .i64 y.re, .int .i64 y.b, .int .i64 y.e] 31)) := ((Below.refl _ _).alloc (Nat.le_refl _) _).alloc (by simp) _
 have hx0 : BoxAt ((w.alloc (.cells #[.int .i64 x.who, .bool x.put, .int .i64 x.v, .int .i64 x.re, .int .i64 x.b, .int .i64 x.e] 31)).alloc (.cells #[.int .i64 y.who, .bool y.put, .int .i64 y.v, .int .i64 y.re, .int .i64 y.b, .int .i64 y.e] 31)) w.heap.size (evC x) 31 := (BoxAt.new _ _ _).alloc _
 have hy0 : BoxAt ((w.alloc (.cells #[.int .i64 x.who, .bool x.put, .int .i64 x.v, .int .i64 x.re, .int .i64 x.b, .int .i64 x.e] 31)).alloc (.cells #[.int .i64 y.who, .bool y.put, .int .i64 y.v, .int .i64 y.re, .int .i64 y.b, .int .i64 y.e] 31)) (w.heap.size + 1) (evC y) 31 := BoxAt.new' (by simp)
 generalize (w.alloc (.cells #[.int .i64 x.who, .bool x.put, .int .i64 x.v, .int .i64 x.re, .int .i64 x.b, .int .i64 x.e] 31)).alloc (.cells #[.int .i64 y.who, .bool y.put, .int .i64 y.v, .int .i64 y.re, .int .i64 y.b, .int .i64 y.e] 31) = W at *
 obtain ⟨Y, hY⟩ : ∃ Y, w.heap.size + 1 = Y := ⟨_, rfl⟩
 obtain ⟨X, hX⟩ : ∃ X, w.heap.size = X := ⟨_, rfl⟩
 rw [hY] at hy0 ⊢
 rw [hX] at hx0 ⊢
 have hXw : w.heap.size ≤ X := by omega
 have hXY : X < Y := by omega
 clear hX hY
 go_wp2_with fail
 refine ((callsIn_wide (n := 3)).1 (callsIn_wide.2 (takes_any l A n cap W (h.below hB0) (by omega) hv))).mono ?_
 rintro e W2 ⟨M, k, f, rfl, hM, hm, hf, hb⟩
 have HF := Lib.hid hf
 have hYM : Y < M := Nat.lt_of_lt_of_le hy0.lt hM
 replace hB0 := bstep hB0 hB0.size hb
 replace hx0 := hx0.below hb hx0.lt
 replace hy0 := hy0.below hb hy0.lt
 clear hM hf hb
 go_upto_region 3 with fail
 refine wp_abs (fun W3 => AGot w x y X Y M k f W2.heap.size (W2.heap.size + 1) (upto false (l.map (dueQ x) ++ List.replicate (16 - n) false) 0) (upto false (l.map (gotQ l x y) ++ List.replicate (16 - n) false) 0) W3) ?_ ?_
 ·
  have hb : Below W2.heap.size W2 ((W2.alloc (.cells (flags (List.replicate 16 false)) 58)).alloc (.cells (flags (List.replicate 16 false)) 58)) := ((Below.refl _ _).alloc (Nat.le_refl _) _).alloc (by simp) _
  rw [upto_zero, upto_zero, List.length_append, List.length_append, List.length_map, List.length_map, List.length_replicate, show l.length + (16 - n) = 16 by have := HL.out; omega]
  exact ⟨bstep hB0 hB0.size hb, hx0.below hb hx0.lt, hy0.below hb hy0.lt, hm.below hb, (BoxAt.new _ _ _).alloc _, BoxAt.new' (by simp), hXw, hXY, hYM, hm.lt, by omega⟩
 obtain ⟨D1, hD1⟩ : ∃ D1, W2.heap.size = D1 := ⟨_, rfl⟩
 obtain ⟨D2, hD2⟩ : ∃ D2, W2.heap.size + 1 = D2 := ⟨_, rfl⟩
 rw [hD2, hD1]
 clear hB0 hx0 hy0 hm hXw hXY hYM hD1 hD2
 intro W3 hA0
 go_wp2
 go_loopw [18] (fun s18 W => ∃ i : Nat, i ≤ n ∧ s18 = .int .i64 i ∧ AGot w x y X Y M k f D1 D2 (upto false (l.map (dueQ x) ++ List.replicate (16 - n) false) i) (upto false (l.map (gotQ l x y) ++ List.replicate (16 - n) false) i) W) (fun s18 _ => n - (intOf s18).toNat)
 case atStart => exact ⟨0, Nat.zero_le _, rfl, hA0⟩
 case round =>
  clear hA0
  obtain ⟨i, hin, rfl, hA⟩ := hrel
  by_cases hlt : i < n
  ·
   obtain ⟨b, o, q, rfl, _, hq, c0, c1, c2, c3, c4, c5⟩ := SlE.at_ (SlE.keep EvE.kept h (fun j _ hj => hA.b.block j hj)) hlt
   have HQ := Lib.hid hq; clear hq
   have g1 : (i : Int) < (n : Int) := by omega
   have g2 : (0 : Int) ≤ (i : Int) := by omega
   have hi16 : i < 16 := by omega
   go_upto_region 6 with fail
   refine wp_abs (fun Wz => AGot w x y X Y M k f D1 D2 (upto false (l.map (dueQ x) ++ List.replicate (16 - n) false) i) (upto false (l.map (gotQ l x y) ++ List.replicate (16 - n) false) i) Wz ∧ BoxAt Wz wr.heap.size (evC q) 31) ⟨hA.below ((Below.refl _ _).alloc (Nat.le_refl _) _), BoxAt.new _ _ _⟩ ?_
   obtain ⟨E, hE⟩ : ∃ E, wr.heap.size = E := ⟨_, rfl⟩
   rw [hE]
   clear hE c0 c1 c2 c3 c4 c5 hA
   rintro W4 ⟨hA4, he⟩
   have hmem : q ∈ l := List.mem_of_getElem? HQ.out
   have hkw := key_wf (hv q hmem).1 (hv q hmem).2
   obtain ⟨tt, isb, hlk, hit⟩ : ∃ (tt : Ev) (isb : Bool), (Instr.lookup 47 (.map (some M)) (.int .i64 q.v) true).run Try.prog W4 = .ok (.tuple #[.agg (evC tt), .bool isb]) W4 ∧ inTime l y q.v = (isb && !decide (y.e < tt.b)) := by
    have h1 := hA4.m.lookOk Try.underlying47 (zero_e W4) hkw
    rw [HF.out] at h1
    unfold inTime
    cases ht : takeOf (gotsF l) q.v with
    | none => rw [ht] at h1; exact ⟨⟨0, false, 0, 0, 0, 0⟩, false, h1, rfl⟩
    | some t => rw [ht] at h1; exact ⟨t, true, h1, rfl⟩
   have HIT := Lib.hid hit
   have hld : (l.map (dueQ x) ++ List.replicate (16 - n) false)[i]? = some (dueQ x q) := by rw [List.getElem?_append_left (by rw [List.length_map, HL.out]; exact hlt), List.getElem?_map, HQ.out]; rfl
   have hlg : (l.map (gotQ l x y) ++ List.replicate (16 - n) false)[i]? = some (dueQ x q && (isb && !decide (y.e < tt.b))) := by rw [List.getElem?_append_left (by rw [List.length_map, HL.out]; exact hlt), List.getElem?_map, HQ.out, ← HIT.out]; rfl
   have HSD := Lib.hid (upto_set false _ hld)
   have HSG := Lib.hid (upto_set false _ hlg)
   have hdl : ((upto false (l.map (dueQ x) ++ List.replicate (16 - n) false) i))[i]? = some false := upto_at _ _ (by rw [List.length_append, List.length_map, List.length_replicate, HL.out]; omega)
   have hgl : ((upto false (l.map (gotQ l x y) ++ List.replicate (16 - n) false) i))[i]? = some false := upto_at _ _ (by rw [List.length_append, List.length_map, List.length_replicate, HL.out]; omega)
   generalize upto false (l.map (dueQ x) ++ List.replicate (16 - n) false) i = ds at *
   generalize upto false (l.map (gotQ l x y) ++ List.replicate (16 - n) false) i = gs at *
   have HLG := Lib.hid hgl
   clear hit hld hlg hgl
   have ke := he.cell
   unfold evC at ke hlk
   go_upto_region 7 with fail
   refine wp_abs (fun Wz => AGot w x y X Y M k f D1 D2 ds gs Wz ∧ BoxAt Wz E (evC q) 31 ∧ BoxAt Wz W4.heap.size (evC tt) 31) ⟨hA4.below ((Below.refl _ _).alloc (Nat.le_refl _) _), he.alloc _, BoxAt.new _ _ _⟩ ?_
   obtain ⟨T, hT⟩ : ∃ T, W4.heap.size = T := ⟨_, rfl⟩
   rw [hT]
   clear hT hA4 he ke hlk
   rintro W5 ⟨hA5, he, htb⟩
   have ke := he.cell
   have kx := hA5.x.cell
   unfold evC at ke kx
   have hix := idx16 D1 i hi16
   have c1 : W5.cell? ⟨D1, i, none⟩ = some (.bool false) := by rw [hA5.d.cell]; exact flags_get hdl
   have c2 := hA5.d.frozen i
   obtain ⟨r_, hr⟩ : ∃ r_, (q.re == 1) = r_ := ⟨_, rfl⟩
   cases r_
   ·
    have HD := Lib.hid (show dueQ x q = false by unfold dueQ; rw [hr]; rfl)
    go_upto_region 8 with fail
    have hDE : D1 ≠ E ∧ D1 ≠ T := ⟨fun h => by have h1 := hA5.d; rw [h] at h1; exact evflags he h1, fun h => by have h1 := hA5.d; rw [h] at h1; exact evflags htb h1⟩
    refine wp_abs (fun Wz => AGot w x y X Y M k f D1 D2 (ds.set i false) gs Wz ∧ BoxAt Wz E (evC q) 31 ∧ BoxAt Wz T (evC tt) 31) ⟨hA5.setD i _, he.set_ne (Ne.symm hDE.1) _ _, htb.set_ne (Ne.symm hDE.2) _ _⟩ ?_
    clear hix c1 c2 hA5 he htb hDE ke kx hr
    rintro W7 ⟨hA7, he, htb⟩
    have hdl2 : (ds.set i false)[i]? = some false := by rw [List.getElem?_set_self]; exact (List.getElem?_eq_some_iff.1 hdl).1
    have HS1 := Lib.hid (show ds.set i false = upto false (l.map (dueQ x) ++ List.replicate (16 - n) false) (i + 1) by rw [← HSD.out, HD.out])
    have e1 : W7.cell? ⟨D1, i, none⟩ = some (.bool false) := by rw [hA7.d.cell]; exact flags_get hdl2
    have e2 : W7.cell? ⟨D2, i, none⟩ = some (.bool false) := by rw [hA7.g.cell]; exact flags_get HLG.out
    have e3 := hA7.g.frozen i
    have hx1 := idx16 D1 i hi16
    have hx2 := idx16 D2 i hi16
    have ky := hA7.y.cell
    have kt := htb.cell
    unfold evC at ky kt
    rw [HS1.out] at hA7
    clear he htb hdl2
    go_wp2
    go_roundw
    case rel =>
     refine ⟨i + 1, by omega, by go_num, ?_⟩
     rw [← HSG.out, HD.out]
     exact hA7.setG i _
    case measure => simp [intOf]; omega
   ·
    go_wp2_with fail
    refine (iahd_any q x _).mono ?_
    rintro e W6 ⟨rfl, hb6⟩
    replace hA5 := hA5.below hb6
    replace he := he.below hb6 he.lt
    replace htb := htb.below hb6 htb.lt
    have c1 : W6.cell? ⟨D1, i, none⟩ = some (.bool false) := by rw [hA5.d.cell]; exact flags_get hdl
    have c2 := hA5.d.frozen i
    clear ke kx hb6
    obtain ⟨d_, hd⟩ : ∃ d_, decide (q.e < x.b) = d_ := ⟨_, rfl⟩
    have HD := Lib.hid (show dueQ x q = d_ by unfold dueQ; rw [hr, hd]; rfl)
    rw [hd]
    clear hd hr
    cases d_
    ·
     go_upto_region 8 with fail
     have hDE : D1 ≠ E ∧ D1 ≠ T := ⟨fun h => by have h1 := hA5.d; rw [h] at h1; exact evflags he h1, fun h => by have h1 := hA5.d; rw [h] at h1; exact evflags htb h1⟩
     refine wp_abs (fun Wz => AGot w x y X Y M k f D1 D2 (ds.set i false) gs Wz ∧ BoxAt Wz E (evC q) 31 ∧ BoxAt Wz T (evC tt) 31) ⟨hA5.setD i _, he.set_ne (Ne.symm hDE.1) _ _, htb.set_ne (Ne.symm hDE.2) _ _⟩ ?_
     clear hix c1 c2 hA5 he htb hDE
     rintro W7 ⟨hA7, he, htb⟩
     have hdl2 : (ds.set i false)[i]? = some false := by rw [List.getElem?_set_self]; exact (List.getElem?_eq_some_iff.1 hdl).1
     have HS1 := Lib.hid (show ds.set i false = upto false (l.map (dueQ x) ++ List.replicate (16 - n) false) (i + 1) by rw [← HSD.out, HD.out])
     have e1 : W7.cell? ⟨D1, i, none⟩ = some (.bool false) := by rw [hA7.d.cell]; exact flags_get hdl2
     have e2 : W7.cell? ⟨D2, i, none⟩ = some (.bool false) := by rw [hA7.g.cell]; exact flags_get HLG.out
     have e3 := hA7.g.frozen i
     have hx1 := idx16 D1 i hi16
     have hx2 := idx16 D2 i hi16
     have ky := hA7.y.cell
     have kt := htb.cell
     unfold evC at ky kt
     rw [HS1.out] at hA7
     clear he htb hdl2
     go_wp2
     go_roundw
     case rel =>
      refine ⟨i + 1, by omega, by go_num, ?_⟩
      rw [← HSG.out, HD.out]
      exact hA7.setG i _
     case measure => simp [intOf]; omega
    ·
     go_upto_region 8 with fail
     have hDE : D1 ≠ E ∧ D1 ≠ T := ⟨fun h => by have h1 := hA5.d; rw [h] at h1; exact evflags he h1, fun h => by have h1 := hA5.d; rw [h] at h1; exact evflags htb h1⟩
     refine wp_abs (fun Wz => AGot w x y X Y M k f D1 D2 (ds.set i true) gs Wz ∧ BoxAt Wz E (evC q) 31 ∧ BoxAt Wz T (evC tt) 31) ⟨hA5.setD i _, he.set_ne (Ne.symm hDE.1) _ _, htb.set_ne (Ne.symm hDE.2) _ _⟩ ?_
     clear hix c1 c2 hA5 he htb hDE
     rintro W7 ⟨hA7, he, htb⟩
     have hdl2 : (ds.set i true)[i]? = some true := by rw [List.getElem?_set_self]; exact (List.getElem?_eq_some_iff.1 hdl).1
     have HS1 := Lib.hid (show ds.set i true = upto false (l.map (dueQ x) ++ List.replicate (16 - n) false) (i + 1) by rw [← HSD.out, HD.out])
     have e1 : W7.cell? ⟨D1, i, none⟩ = some (.bool true) := by rw [hA7.d.cell]; exact flags_get hdl2
     have e2 : W7.cell? ⟨D2, i, none⟩ = some (.bool false) := by rw [hA7.g.cell]; exact flags_get HLG.out
     have e3 := hA7.g.frozen i
     have hx1 := idx16 D1 i hi16
     have hx2 := idx16 D2 i hi16
     have ky := hA7.y.cell
     have kt := htb.cell
     unfold evC at ky kt
     rw [HS1.out] at hA7
     clear he htb hdl2
     cases isb
     ·
      go_wp2
      go_roundw
      case rel =>
       refine ⟨i + 1, by omega, by go_num, ?_⟩
       rw [← HSG.out, HD.out]
       exact hA7.setG i _
      case measure => simp [intOf]; omega
     ·
      go_wp2_with fail
      refine (iahd_any y tt _).mono ?_
      rintro e W8 ⟨rfl, hb8⟩
      replace hA7 := hA7.below hb8
      have e2 : W8.cell? ⟨D2, i, none⟩ = some (.bool false) := by rw [hA7.g.cell]; exact flags_get HLG.out
      have e3 := hA7.g.frozen i
      clear ky kt e1 hb8
      obtain ⟨z_, hz⟩ : ∃ z_, decide (y.e < tt.b) = z_ := ⟨_, rfl⟩
      rw [hz]
      have HSZ := Lib.hid (show gs.set i (!z_) = upto false (l.map (gotQ l x y) ++ List.replicate (16 - n) false) (i + 1) by rw [← HSG.out, HD.out, hz]; rfl)
      clear hz
      cases z_
      all_goals
       go_wp2
       go_roundw
       case rel =>
        refine ⟨i + 1, by omega, by go_num, ?_⟩
        rw [← HSZ.out]
        exact hA7.setG i _
       case measure => simp [intOf]; omega
  ·
   have g1 : ¬ (i : Int) < (n : Int) := by omega
   obtain rfl : n = i := by omega
   have hd16 : (upto false (l.map (dueQ x) ++ List.replicate (16 - n) false) n).length = 16 := by rw [upto_len _ _ (by rw [List.length_append, List.length_map, List.length_replicate, HL.out]; omega), List.length_append, List.length_map, List.length_replicate, HL.out]; omega
   have hg16 : (upto false (l.map (gotQ l x y) ++ List.replicate (16 - n) false) n).length = 16 := by rw [upto_len _ _ (by rw [List.length_append, List.length_map, List.length_replicate, HL.out]; omega), List.length_append, List.length_map, List.length_replicate, HL.out]; omega
   have hup : ∀ q : Ev → Bool, upto false (l.map q ++ List.replicate (16 - n) false) n = l.map q ++ List.replicate (16 - n) false := fun q => by
    unfold upto
    rw [List.take_append_of_le_length (by rw [List.length_map, HL.out]; exact Nat.le_refl _), List.take_of_length_le (by rw [List.length_map, HL.out]; exact Nat.le_refl _), List.length_append, List.length_map, List.length_replicate, HL.out, show n + (16 - n) - n = 16 - n by omega]
   have heq : ∀ V, (binOp .eql 58 (.agg (flags (upto false (l.map (dueQ x) ++ List.replicate (16 - n) false) n))) (.agg (flags (upto false (l.map (gotQ l x y) ++ List.replicate (16 - n) false) n)))).run Try.prog V = .ok (.bool (allGotB l x y)) V := fun V => by
    rw [eql_flags _ _ hd16 hg16, hup, hup, allGot_eq]
   have hb := hA.b
   have k1 := hA.d.cell
   have k2 := hA.g.cell
   obtain ⟨a0, a1, a2, a3, a4, a5, a6, a7, a8, a9, a10, a11, a12, a13, a14, a15, hda⟩ := list16 hd16
   obtain ⟨b0, b1, b2, b3, b4, b5, b6, b7, b8, b9, b10, b11, b12, b13, b14, b15, hgb⟩ := list16 hg16
   rw [hda, hgb] at heq
   rw [hda] at k1
   rw [hgb] at k2
   simp only [flags, List.map_cons, List.map_nil] at k1 k2 heq
   clear hd16 hg16 hup hda hgb hA
   go_wp2
   go_ret
   exact .mk rfl hb
end Go.Proofs.Ytghgfbncijfocaa
