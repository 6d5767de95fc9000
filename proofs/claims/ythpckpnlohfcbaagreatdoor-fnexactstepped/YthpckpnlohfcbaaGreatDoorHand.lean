/-
 Hands: what the functions on them answer, and the model's walks.
-/
import Derived.Test.YthpckpnlohfcbaaGreatDoorPrim4
namespace Go.Proofs.YthpckpnlohfcbaaGreatDoor
set_option linter.unusedSimpArgs false
set_option linter.unusedVariables false
open Go.RowKit
set_option linter.unusedVariables false
attribute [local go_sem ↓] Go.wp_at_zero Go.wp_at_succ
structure Hd where
 at_ : Int
 v : Int
 r : Int
 t : Int
 seen : Pl
 tr : Int
 sp : Int
 ag : Bool
 re : Int
structure AH where
 h : Hd
def aH (h : Hd) : AH := ⟨h⟩
instance (h : Hd) : CoeDep AH (aH h) (List Value) := ⟨[Value.int .i64 h.at_, Value.int .i64 h.v, Value.int .i64 h.r, Value.int .i64 h.t, Value.bool h.seen.s, Value.int .i64 h.seen.n, Value.bool h.seen.f, Value.int .i64 h.seen.v, Value.int .i64 h.tr, Value.int .i64 h.sp, Value.bool h.ag, Value.int .i64 h.re]⟩
instance (h : Hd) : CoeDep AH (aH h) (Array Value) := ⟨#[Value.int .i64 h.at_, Value.int .i64 h.v, Value.int .i64 h.r, Value.int .i64 h.t, Value.bool h.seen.s, Value.int .i64 h.seen.n, Value.bool h.seen.f, Value.int .i64 h.seen.v, Value.int .i64 h.tr, Value.int .i64 h.sp, Value.bool h.ag, Value.int .i64 h.re]⟩
structure DH where
 h : Hd
def dH (a v r t : Int) (p : Pl) (tr sp : Int) (ag : Bool) (re : Int) : DH := ⟨⟨a, v, r, t, p, tr, sp, ag, re⟩⟩
instance (a v r t : Int) (p : Pl) (tr sp : Int) (ag : Bool) (re : Int) : CoeDep DH (dH a v r t p tr sp ag re) (List Value) := ⟨[Value.int .i64 a, Value.int .i64 v, Value.int .i64 r, Value.int .i64 t, Value.bool p.s, Value.int .i64 p.n, Value.bool p.f, Value.int .i64 p.v, Value.int .i64 tr, Value.int .i64 sp, Value.bool ag, Value.int .i64 re]⟩
instance (a v r t : Int) (p : Pl) (tr sp : Int) (ag : Bool) (re : Int) : CoeDep DH (dH a v r t p tr sp ag re) (Array Value) := ⟨#[Value.int .i64 a, Value.int .i64 v, Value.int .i64 r, Value.int .i64 t, Value.bool p.s, Value.int .i64 p.n, Value.bool p.f, Value.int .i64 p.v, Value.int .i64 tr, Value.int .i64 sp, Value.bool ag, Value.int .i64 re]⟩
structure EH where
 h : Hd
def eH (a v r t : Int) (ps : Bool) (pn : Int) (pf : Bool) (pv tr sp : Int) (ag : Bool) (re : Int) : EH := ⟨⟨a, v, r, t, ⟨ps, pn, pf, pv⟩, tr, sp, ag, re⟩⟩
instance (a v r t : Int) (ps : Bool) (pn : Int) (pf : Bool) (pv tr sp : Int) (ag : Bool) (re : Int) : CoeDep EH (eH a v r t ps pn pf pv tr sp ag re) (List Value) := ⟨[Value.int .i64 a, Value.int .i64 v, Value.int .i64 r, Value.int .i64 t, Value.bool ps, Value.int .i64 pn, Value.bool pf, Value.int .i64 pv, Value.int .i64 tr, Value.int .i64 sp, Value.bool ag, Value.int .i64 re]⟩
instance (a v r t : Int) (ps : Bool) (pn : Int) (pf : Bool) (pv tr sp : Int) (ag : Bool) (re : Int) : CoeDep EH (eH a v r t ps pn pf pv tr sp ag re) (Array Value) := ⟨#[Value.int .i64 a, Value.int .i64 v, Value.int .i64 r, Value.int .i64 t, Value.bool ps, Value.int .i64 pn, Value.bool pf, Value.int .i64 pv, Value.int .i64 tr, Value.int .i64 sp, Value.bool ag, Value.int .i64 re]⟩
inductive ZH where
 | z
def zH : ZH := .z
instance : CoeDep ZH zH (List Value) := ⟨[Value.int .i64 0, Value.int .i64 0, Value.int .i64 0, Value.int .i64 0, Value.bool false, Value.int .i64 0, Value.bool false, Value.int .i64 0, Value.int .i64 0, Value.int .i64 0, Value.bool false, Value.int .i64 0]⟩
instance : CoeDep ZH zH (Array Value) := ⟨#[Value.int .i64 0, Value.int .i64 0, Value.int .i64 0, Value.int .i64 0, Value.bool false, Value.int .i64 0, Value.bool false, Value.int .i64 0, Value.int .i64 0, Value.int .i64 0, Value.bool false, Value.int .i64 0]⟩
def hdV (h : Hd) : Value := .agg (aH h)
def Hd.zero : Hd := ⟨0, 0, 0, 0, ⟨false, 0, false, 0⟩, 0, 0, false, 0⟩
def putB (z : Int) : Bool := inB z 1 12
def Hd.okA (h : Hd) : Bool := inB h.at_ 0 24 && inB h.v 0 1000000 && inB h.r 0 15 && noB h.t && noB h.tr && okB h.seen.n h.seen.f h.seen.v
def Hd.okC (h : Hd) : Bool := inB h.sp (-1) 15 && inB h.re 0 4 && (!putB h.at_ || decide (0 < h.v))
def Hd.ok (h : Hd) : Bool := h.okA && h.okC
def Hd.rest (h : Hd) (re : Int) : Hd := { Hd.zero with sp := h.sp, re := re }
def isPutting (h : Hd) : Bool := h.ok && putB h.at_
set_option maxHeartbeats 400000 in
theorem l5Putting_any (z : Int) (w : World) : Calls Tryz.prog 48 #[z] w (Quiet1 (.bool (putB z)) w) := by
 go_enter Tryz.func48, Tryz.ntmps48
 go_wp2_with fail
 refine (l1In_any _ _ _ _).mono ?_
 rintro e w' ⟨rfl, rfl⟩
 go_wp2
 go_ret
 exact ⟨rfl, rfl⟩
set_option maxRecDepth 100000 in
set_option maxHeartbeats 1000000 in
theorem shandOk_any (h : Hd) (w : World) : Calls Tryz.prog 47 #[hdV h] w (RetBelow (.bool h.ok) w) := by
 unfold hdV
 go_enter Tryz.func47, Tryz.ntmps47
 go_wp2_with fail
 refine calls_abs (fun W => Below w.heap.size w W ∧ BoxAt W w.heap.size (aH h) 35) ⟨(Below.refl _ _).alloc (Nat.le_refl _) _, BoxAt.new _ _ _⟩ ?_
 rintro W ⟨hB, hx⟩
 have kx := hx.cell
 refine (l1In_any _ _ _ _).mono ?_
 rintro e w' ⟨rfl, rfl⟩
 cases h0 : inB h.at_ 0 24
 ·
  go_wp2
  go_ret
  exact .mk (by simp [Hd.ok, Hd.okA, h0]) hB
 go_wp2_with fail
 refine (l1In_any _ _ _ _).mono ?_
 rintro e w' ⟨rfl, rfl⟩
 cases h1 : inB h.v 0 1000000
 ·
  go_wp2
  go_ret
  exact .mk (by simp [Hd.ok, Hd.okA, h1]) hB
 go_wp2_with fail
 refine (l1In_any _ _ _ _).mono ?_
 rintro e w' ⟨rfl, rfl⟩
 cases h2 : inB h.r 0 15
 ·
  go_wp2
  go_ret
  exact .mk (by simp [Hd.ok, Hd.okA, h2]) hB
 go_wp2_with fail
 refine (l1No_any _ _).mono ?_
 rintro e w' ⟨rfl, rfl⟩
 cases h3 : noB h.t
 ·
  go_wp2
  go_ret
  exact .mk (by simp [Hd.ok, Hd.okA, h3]) hB
 go_wp2_with fail
 refine (l1No_any _ _).mono ?_
 rintro e w' ⟨rfl, rfl⟩
 cases h4 : noB h.tr
 ·
  go_wp2
  go_ret
  exact .mk (by simp [Hd.ok, Hd.okA, h4]) hB
 go_wp2_with fail
 refine (splaceOk_any _ _ _ _ _).mono ?_
 rintro e w1 ⟨rfl, hb1⟩
 replace hx := hx.below hb1 hx.lt
 replace hB := bstep hB hB.size hb1
 clear hb1 kx
 have kx := hx.cell
 cases h5 : okB h.seen.n h.seen.f h.seen.v
 ·
  go_wp2
  go_ret
  exact .mk (by simp [Hd.ok, Hd.okA, h5]) hB
 have HA := Lib.hid (show h.okA = true by simp [Hd.okA, h0, h1, h2, h3, h4, h5])
 clear h0 h1 h2 h3 h4 h5
 go_wp2_with fail
 refine (l1In_any _ _ _ _).mono ?_
 rintro e w' ⟨rfl, rfl⟩
 cases h6 : inB h.sp (-1) 15
 ·
  go_wp2
  go_ret
  exact .mk (by simp [Hd.ok, Hd.okC, h6]) hB
 go_wp2_with fail
 refine (l1In_any _ _ _ _).mono ?_
 rintro e w' ⟨rfl, rfl⟩
 cases h7 : inB h.re 0 4
 ·
  go_wp2
  go_ret
  exact .mk (by simp [Hd.ok, Hd.okC, h7]) hB
 go_wp2_with fail
 refine (l5Putting_any _ _).mono ?_
 rintro e w' ⟨rfl, rfl⟩
 have HV := Lib.hid (show h.ok = (!putB h.at_ || decide (0 < h.v)) by simp [Hd.ok, Hd.okC, HA.out, h6, h7])
 clear h6 h7
 cases h8 : putB h.at_
 ·
  go_wp2
  go_ret
  exact .mk (by rw [HV.out, h8]; rfl) hB
 have HP := Lib.hid h8; clear h8
 by_cases h9 : 0 < h.v
 ·
  go_wp2
  go_ret
  exact .mk (by rw [HV.out, HP.out]; simp [h9]) hB
 ·
  go_wp2
  go_ret
  exact .mk (by rw [HV.out, HP.out]; simp [h9]) hB
set_option maxHeartbeats 400000 in
theorem sisPutting_any (h : Hd) (w : World) : Calls Tryz.prog 23 #[hdV h] w (RetBelow (.bool (isPutting h)) w) := by
 unfold hdV
 go_enter Tryz.func23, Tryz.ntmps23
 go_wp2_with fail
 refine calls_abs (fun W => Below w.heap.size w W ∧ BoxAt W w.heap.size (aH h) 35) ⟨(Below.refl _ _).alloc (Nat.le_refl _) _, BoxAt.new _ _ _⟩ ?_
 rintro W ⟨hB, hx⟩
 refine (shandOk_any h _).mono ?_
 rintro e w1 ⟨rfl, hb1⟩
 replace hx := hx.below hb1 hx.lt
 replace hB := bstep hB hB.size hb1
 clear hb1
 have kx := hx.cell
 cases hok : h.ok
 ·
  go_wp2
  go_ret
  exact .mk (by simp [isPutting, hok]) hB
 go_wp2_with fail
 refine (l5Putting_any _ _).mono ?_
 rintro e w' ⟨rfl, rfl⟩
 go_wp2
 go_ret
 exact .mk (by simp [isPutting, hok]) hB
set_option maxHeartbeats 400000 in
theorem l6Rest_any (h : Hd) (re : Int) (w : World) : Calls Tryz.prog 74 #[hdV h, re] w (RetBelow (hdV (h.rest re)) w) := by
 unfold hdV
 go_enter Tryz.func74, Tryz.ntmps74
 go_wp2
 refine bodyPost_ret (v := hdV (h.rest re)) (by simp [results, Tryz.results74, go_sem, hdV, Hd.rest, Hd.zero]) rfl ⟨rfl, ?_⟩
 exact ((Below.refl _ _).alloc (Nat.le_refl _) _).alloc (by simp) _
def mayPut (p : Pl) (t : Int) : Bool := !p.f && decide (p.n ≤ t)
set_option maxHeartbeats 400000 in
theorem smayPut_any (p : Pl) (t : Int) (w : World) : Calls Tryz.prog 72 #[.agg (cP p), t] w (RetBelow (.bool (mayPut p t)) w) := by
 obtain ⟨a, b, c, d⟩ := p
 cases c
 all_goals
  go_enter Tryz.func72, Tryz.ntmps72
  go_wp2
  all_goals
   go_ret
   exact .mk (by simp [mayPut]) ((Below.refl _ _).alloc (Nat.le_refl _) _)
def leftP (p : Pl) (t n : Int) : Pl := ⟨p.s, t + n, false, 0⟩
set_option maxHeartbeats 400000 in
theorem sleft_any (p : Pl) (t n : Int) (w : World) (h0 : 0 ≤ t) (h1 : t ≤ 1000000) (h2 : 0 ≤ n) (h3 : n ≤ 1000000) :
  Calls Tryz.prog 78 #[.agg (cP p), t, n] w (RetBelow (.agg #[p.s, .int .i64 (t + n), .bool false, .int .i64 0]) w) := by
 go_enter Tryz.func78, Tryz.ntmps78
 go_wp2
 refine bodyPost_ret (v := .agg #[p.s, .int .i64 (t + n), .bool false, .int .i64 0]) (by simp [results, Tryz.results78, go_sem]) rfl ⟨rfl, ?_⟩
 exact ((Below.refl _ _).alloc (Nat.le_refl _) _).alloc (by simp) _
set_option maxHeartbeats 400000 in
theorem l7Then_any (b : Bool) (x y : Int) (w : World) : Calls Tryz.prog 79 #[b, x, y] w (Quiet1 (.int .i64 (if b then x else y)) w) := by
 cases b
 all_goals
  go_enter Tryz.func79, Tryz.ntmps79
  go_wp2
  go_ret
  exact ⟨rfl, rfl⟩
end Go.Proofs.YthpckpnlohfcbaaGreatDoor
